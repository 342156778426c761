/- THE READER: label. Own work of the verifier. -/
import Derived.Test.YtlgkfeeclgcgbaaGreatDoorZAQ
set_option maxRecDepth 100000
set_option maxHeartbeats 8000000
namespace Go.Proofs.YtlgkfeeclgcgbaaGreatDoor.La
open Go.RowKit
theorem clone_any (l:List UInt8) (hl:l.length≤281474976710656) (w:World) :
  Calls Tryz.prog 28 #[.string ⟨l.toArray⟩] w fun r w'=>r=.returned (.string ⟨l.toArray⟩)∧Below w.heap.size w w':=by
 have HC:HidC _ _ _ _ _:=Tryz.stringslite_Clone ⟨l.toArray⟩ w (by show l.toArray.size≤_;rw [List.size_toArray];exact hl)
 go_enter Tryz.func28,Tryz.ntmps28
 go_wp2_with fail
 refine (HC.out).mono ?_
 rintro e w1 ⟨rfl,hb⟩
 clear HC
 go_wp2_with fail
 go_ret
 exact ⟨rfl,hb⟩
theorem pre_get (l:List UInt8) (k:Nat) (c:UInt8) (hc:c.toNat≠0):preB (l.drop k) [c]=decide ((l.getD k 0).toNat=c.toNat):=by
 rw [pre_one]
 by_cases h:k < l.length
 ·rw [decide_eq_decide]
  exact ⟨fun e=>e.2,fun e=>⟨h,e⟩⟩
 ·rw [decide_eq_false (by omega),decide_eq_false]
  rw [List.getD_eq_getElem?_getD,List.getElem?_eq_none (by omega)]
  intro e
  exact hc e.symm
theorem val_far (l:List UInt8) (p k:Nat) (t:List UInt8) (hp:p≤l.length) (h:valR (l.drop p) p=.ok (t,k)):p≤k∧k≤l.length∧t.length≤l.length:=by
 rw [val_un l _ p rfl hp] at h
 have hd:(l.drop p).length=l.length - p:=List.length_drop
 rcases ue_all true _ (l.drop p) rfl p with ⟨j,a1,a2,a3⟩ | ⟨s,j,a1,a2,a3,a4⟩
 ·have:=a3 0
  rw [Nat.add_zero] at this
  rw [this] at h
  cases h
 ·have:=a4 0
  rw [Nat.add_zero] at this
  rw [this] at h
  simp only [Nat.add_zero] at h
  split at h
  ·rename_i hq
   rw [pre_one,decide_eq_true_eq] at hq
   cases h
   exact ⟨by omega,by omega,by omega⟩
  ·cases h
theorem val_err (l:List UInt8) (p k:Nat) (z:Int) (hp:p≤l.length) (h:valR (l.drop p) p=.error (z,k)):z=5:=by
 rw [val_un l _ p rfl hp] at h
 cases hu:unE true (l.drop p) p with
 | error e=>rw [hu] at h;cases h;rfl
 | ok t =>
  obtain ⟨s,j⟩:=t
  rw [hu] at h
  simp only at h
  split at h
  ·cases h
  ·cases h;rfl
def TellsL (l:List UInt8) (p:Nat) (L:List Lb) (e:Ending) (j:Nat):Prop :=
 (∃ z x y,oneR l p L=.error (z,j)∧z≠0∧e=.returned (.tuple #[.agg #[.string x,.string y],.int .i64 z])) ∨
 (∃ a c:List UInt8,oneR l p L=.ok ((a,c),j)∧j≤l.length∧e=.returned (.tuple #[.agg #[.string ⟨a.toArray⟩,.string ⟨c.toArray⟩],.int .i64 0]))
theorem results_ct {fn:Func} {p u:Tmp} {ty:TypeId} (h:fn.results=#[.cell p ty,.tmp u]) (tmps:Array Value) (P:Program) (w:World) :
  (results fn tmps).run P w =
   ((asAddr (tmps.getD p undef)).run P w).andThen fun a w₁=>((loadVar ty a).run P w₁).andThen fun v w₂=>.ok (.tuple #[v,tmps.getD u undef]) w₂:=by
 simp only [results,h]
 simp [Sem.run_bind,Result.andThen]
theorem ret_lab (tmps:Array Value) (g:Nat) (x y:ByteArray) (w:World) (hp:tmps.getD 4 undef=.pointer (some ⟨g,0,none⟩)) (c0:w.cell? ⟨g,0,none⟩=some (.string x)) (c1:w.cell? ⟨g,1,none⟩=some (.string y)) :
  (results Tryz.f178 tmps).run Tryz.prog w=.ok (.tuple #[.agg #[.string x,.string y],tmps.getD 5 undef]) w:=by
 rw [results_ct (p:=4) (u:=5) (ty:=152) rfl,hp]
 simp [asAddr,load_label g x y w c0 c1,Result.andThen]
structure LS (w:World) (g h:Nat) (l:List UInt8) (j:Nat) (W:World):Prop where
 ex:Ex g w W
 rd:RdAt W g l j
 lb:W.heap[h]? =some (.cells #[.string ⟨#[]⟩,.string ⟨#[]⟩] 152)
 hg:g < h
 hh:w.heap.size≤h
theorem LS.lt {w:World} {g h j:Nat} {l:List UInt8} {W:World} (s:LS w g h l j W):h < W.heap.size:=(Array.getElem?_eq_some_iff.1 s.lb).1
theorem LS.next {w:World} {g h j j':Nat} {l:List UInt8} {W W1:World} (s:LS w g h l j W) (hx:Ex g W W1) (hr:RdAt W1 g l j'):LS w g h l j' W1 :=
 ⟨s.ex.trans hx,hr,(hx.block h s.lt (by have:=s.hg;omega)).trans s.lb,s.hg,s.hh⟩
theorem LS.below {w:World} {g h j:Nat} {l:List UInt8} {W W1:World} (s:LS w g h l j W) (hb:Below W.heap.size W W1):LS w g h l j W1:=s.next (Ex.of hb) (s.rd.below hb)
theorem LS.drewN {w:World} {g h j:Nat} {l:List UInt8} {W:World} (s:LS w g h l j W) (n:Nat):LS w g h l j (W.drewN n):=s.below (below_drewN W n)
theorem LS.set {w:World} {g h j:Nat} {l:List UInt8} {W:World} (s:LS w g h l j W) (r:Nat):LS w g h l r (W.setCell ⟨g,1,none⟩ (.int .i64 (r:Int))):=s.next ((Ex.refl g W).set _ _) (s.rd.set r)
theorem LS.new (w:World) (g j:Nat) (l:List UInt8) (hr:RdAt w g l j):LS w g w.heap.size l j (w.alloc (.cells #[.string ⟨#[]⟩,.string ⟨#[]⟩] 152)) :=
 ⟨Ex.of (bel1 w _),hr.below (bel1 w _),by show (w.heap.push _)[w.heap.size]? =_;simp,hr.lt,Nat.le_refl _⟩
theorem LS.cells {w:World} {g h j:Nat} {l:List UInt8} {W:World} (s:LS w g h l j W):W.cell? ⟨h,0,none⟩=some (.string ⟨#[]⟩)∧W.cell? ⟨h,1,none⟩=some (.string ⟨#[]⟩)∧W.frozen? ⟨h,0,none⟩=false∧W.frozen? ⟨h,1,none⟩=false:=by
 have h':=s.lb
 refine ⟨?_,?_,?_,?_⟩ <;> simp [World.cell?,World.frozen?,h']
theorem Ex.put {g h:Nat} {w W:World} (s:Ex g w W) (hh:w.heap.size≤h) (o:Nat) (u:Value):Ex g w (W.setCell ⟨h,o,none⟩ u) :=
 ⟨s.os,s.tape,s.output,by have:=s.size;simpa [World.setCell] using this,fun k hk hg=>by rw [Below.heap_setCell _ _ _ _ (by show k≠h;omega)];exact s.block k hk hg⟩
theorem LS.fin {w:World} {g h j:Nat} {l:List UInt8} {W:World} (s:LS w g h l j W) (x y:Value):Ex g w ((W.setCell ⟨h,0,none⟩ x).setCell ⟨h,1,none⟩ y)∧RdAt ((W.setCell ⟨h,0,none⟩ x).setCell ⟨h,1,none⟩ y) g l j:=by
 have hne:g≠h:=by have:=s.hg;omega
 refine ⟨(s.ex.put s.hh _ _).put s.hh _ _,?_⟩
 unfold RdAt
 rw [Below.heap_setCell _ _ _ _ hne,Below.heap_setCell _ _ _ _ hne]
 exact s.rd
theorem clab_any (g p:Nat) (l:List UInt8) (hp:p≤l.length) (hl:l.length≤140737488355328) (ao:Option Addr) (b o cap:Nat) (L:List Lb) (hao:L≠[]→ao=some ⟨b,o,none⟩) (hlL:L.length≤9223372036854775807) (w:World) (hr:RdAt w g l p) (hL:RowL w b o L) :
  Calls Tryz.prog 178 #[.pointer (some ⟨g,0,none⟩),.slice ao L.length cap] w fun r w'=>∃ j,TellsL l p L r j∧Ex g w w'∧RdAt w' g l j:=by
 have HS0:Hid (LS w g w.heap.size l p (w.alloc (.cells #[.string ⟨#[]⟩,.string ⟨#[]⟩] 152))):=LS.new w g p l hr
 obtain ⟨n,hn⟩:∃ n,n=rowN false (l.drop p):=⟨_,rfl⟩
 have hnl:=rowN_le false (l.drop p)
 rw [← hn,List.length_drop] at hnl
 obtain ⟨nm,hnm⟩:∃ nm,nm=nmAt l p:=⟨_,rfl⟩
 have hnm2:nm=(l.drop p).take n:=by rw [hnm,hn];rfl
 have hnml:nm.length=n:=by rw [hnm2,List.length_take,List.length_drop];omega
 have HR:Hid (∀ W,RdAt W g l p→Calls Tryz.prog 165 #[.pointer (some ⟨g,0,none⟩)] W fun r w'=>r=.returned (.string ⟨(l.drop p).toArray⟩)∧∃ n,w'=W.drewN n):=fun W h=>rest_any g p l hp W h
 have HW:Hid (∀ W,Calls Tryz.prog 55 #[.string ⟨(l.drop p).toArray⟩,fv false] W fun r w'=>r=.returned (.string ⟨nm.toArray⟩)∧w'=W):=fun W=>by rw [hnm2,hn];exact crow_any (l.drop p) false (by rw [List.length_drop];omega) W
 have HN:Hid (∀ W,Calls Tryz.prog 80 #[.string ⟨nm.toArray⟩] W fun r w'=>r=.returned (.bool (lnameB nm))∧w'=W):=fun W=>clname_any nm (by omega) W
 have HP:Hid (∀ W,RowL W b o L→Calls Tryz.prog 81 #[.slice ao L.length cap,.string ⟨nm.toArray⟩] W fun r w'=>r=.returned (.int .i64 (plE L nm))∧w'=W):=fun W h=>place_any ao b o cap L hao hlL nm W h
 have HRow:Hid (RowL w b o L):=hL
 obtain ⟨p1,hp1⟩:∃ p1,p1=p+n:=⟨_,rfl⟩
 have hp1':(p:Int)+(nm.length:Int)=(p1:Int):=by omega
 have hp1l:p1≤l.length:=by omega
 have HT1:Hid (∀ W,RdAt W g l p1→Calls Tryz.prog 166 #[.pointer (some ⟨g,0,none⟩),.string ⟨#[61]⟩] W fun r w'=>r=.returned (.bool (preB (l.drop p1) [61]))∧Ex g W w'∧RdAt w' g l (if preB (l.drop p1) [61] then p1+1 else p1)):=fun W h=>take_any g p1 l [61] hp1l (by omega) W h
 have HT2:Hid (∀ W,p1+1≤l.length→RdAt W g l (p1+1)→Calls Tryz.prog 166 #[.pointer (some ⟨g,0,none⟩),.string ⟨#[34]⟩] W fun r w'=>r=.returned (.bool (preB (l.drop (p1+1)) [34]))∧Ex g W w'∧RdAt w' g l (if preB (l.drop (p1+1)) [34] then p1+1+1 else p1+1)):=fun W h0 h=>take_any g (p1+1) l [34] h0 (by omega) W h
 have HV:Hid (∀ W,p1+2≤l.length→RdAt W g l (p1+2)→Calls Tryz.prog 213 #[.pointer (some ⟨g,0,none⟩)] W fun r w'=>∃ j,TellsW l (p1+2) r j∧Ex g W w'∧RdAt w' g l j):=fun W h0 h=>cvalue_any g (p1+2) l h0 hl W h
 have HCl:Hid (∀ W,Calls Tryz.prog 28 #[.string ⟨nm.toArray⟩] W fun r w'=>r=.returned (.string ⟨nm.toArray⟩)∧Below W.heap.size W w'):=fun W=>clone_any nm (by omega) W
 have hO:oneR l p L=if L.length=16 then .error (3,p)
  else if lnameB nm=false then .error (9,p)
  else if plE L nm≠0 then .error (plE L nm,p)
  else if preB (l.drop p1) [61]=false then .error (5,p1)
  else if preB (l.drop (p1+1)) [34]=false then .error (5,p1+1)
  else match valR (l.drop (p1+2)) (p1+2) with
   | .error e=>.error e
   | .ok q=>if txE q.1≠0 then .error (txE q.1,p1+2) else .ok ((nm,q.1),q.2):=by
  unfold oneR
  rw [← hnm,← hn,← hp1]
  have e1:(L.length≠0∧bhE (L.getD (L.length - 1) ([],[])).1 nm≠0) ↔ plE L nm≠0:=by
   unfold plE
   by_cases h0:L.length=0
   ·simp [h0]
   ·simp [h0]
  have e2:preB (l.drop p1) [61]=false ↔ (l.getD p1 0).toNat≠61:=by rw [pre_get l p1 61 (by decide)];simp
  have e3:preB (l.drop (p1+1)) [34]=false ↔ (l.getD (p1+1) 0).toNat≠34:=by rw [pre_get l (p1+1) 34 (by decide)];simp
  have e4:¬ L.length=0→plE L nm=bhE (L.getD (L.length - 1) ([],[])).1 nm:=fun h0=>by unfold plE;rw [if_neg h0]
  by_cases a1:L.length=16
  ·rw [if_pos a1,if_pos a1]
  rw [if_neg a1,if_neg a1]
  by_cases a2:lnameB nm=false
  ·rw [if_pos a2,if_pos a2]
  rw [if_neg a2,if_neg a2]
  by_cases a3:plE L nm≠0
  ·have h0:¬ L.length=0:=(e1.2 a3).1
   rw [if_pos (e1.2 a3),if_pos a3,e4 h0]
  rw [if_neg (fun h=>a3 (e1.1 h)),if_neg a3]
  by_cases a4:preB (l.drop p1) [61]=false
  ·rw [if_pos (e2.1 a4),if_pos a4]
  rw [if_neg (fun h=>a4 (e2.2 h)),if_neg a4]
  by_cases a5:preB (l.drop (p1+1)) [34]=false
  ·rw [if_pos (e3.1 a5),if_pos a5]
  rw [if_neg (fun h=>a5 (e3.2 h)),if_neg a5]
  cases valR (l.drop (p1+2)) (p1+2) <;> rfl
 have hq1:preB (l.drop p1) [61]=true→p1+1≤l.length:=fun h=>by rw [pre_one,decide_eq_true_eq] at h;omega
 have hq2:preB (l.drop (p1+1)) [34]=true→p1+2≤l.length:=fun h=>by rw [pre_one,decide_eq_true_eq] at h;omega
 clear hr hL hn hnl hnm hnm2 hnml hp1 hao hlL
 unfold fv at HW
 have hp1b:(p1:Int)≤140737488355328:=by omega
 by_cases g1:L.length=16
 ·have g1':((L.length:Int) == 16)=true:=by rw [beq_iff_eq];omega
  rw [if_pos g1] at hO
  have HO:Hid _:=hO
  clear hO HR HW HN HP HRow HT1 HT2 HV HCl hq1 hq2 g1
  as_aux_lemma =>
   go_enter Tryz.func178,Tryz.ntmps178
   go_wp2_with fail
   (try simp only [Exit.inBlock,Exit.then]);refine bodyPost_ret (ret_lab _ w.heap.size _ _ _ rfl HS0.out.cells.1 HS0.out.cells.2.1) rfl ?_
   exact ⟨p,Or.inl ⟨3,_,_,HO.out,by decide,rfl⟩,HS0.out.ex,HS0.out.rd⟩
 have g1':((L.length:Int) == 16)=false:=by rw [beq_eq_false_iff_ne];omega
 rw [if_neg g1] at hO
 clear g1
 generalize lnameB nm=nb at *
 cases nb
 ·rw [if_pos rfl] at hO
  have HO:Hid _:=hO
  clear hO HP HRow HT1 HT2 HV HCl hq1 hq2
  as_aux_lemma =>
   go_enter Tryz.func178,Tryz.ntmps178
   go_wp2_with fail
   refine (HR.out _ HS0.out.rd).mono ?_
   rintro e w1 ⟨rfl,n,rfl⟩
   have HS1:Hid _:=HS0.out.drewN n
   clear HR HS0
   generalize (w.alloc (.cells #[.string ⟨#[]⟩,.string ⟨#[]⟩] 152)).drewN n=W1 at *
   obtain ⟨c0,c1,f0,f1⟩:=HS1.out.cells
   go_wp2_with (first | (go_at_call 55;refine (HW.out _).mono ?_;rintro e1 w1 ⟨rfl,rfl⟩) | (go_at_call 80;refine (HN.out _).mono ?_;rintro e1 w1 ⟨rfl,rfl⟩))
   (try simp only [Exit.inBlock,Exit.then]);refine bodyPost_ret (ret_lab _ w.heap.size _ _ _ rfl (two_set c0 c1).1 (two_set c0 c1).2) rfl ?_
   exact ⟨p,Or.inl ⟨9,_,_,HO.out,by decide,rfl⟩,HS1.out.fin _ _⟩
 rw [if_neg (by decide)] at hO
 generalize plE L nm=pz at *
 by_cases g3:pz=0
 ·subst g3
  rw [if_neg (by decide)] at hO
  generalize hb1:preB (l.drop p1) [61]=b1 at *
  cases b1
  ·rw [if_pos rfl] at hO
   have HO:Hid _:=hO
   clear hO HT2 HV HCl hq1 hq2 hb1
   as_aux_lemma =>
    go_enter Tryz.func178,Tryz.ntmps178
    go_wp2_with fail
    refine (HR.out _ HS0.out.rd).mono ?_
    rintro e w1 ⟨rfl,n,rfl⟩
    have HS1:Hid _:=HS0.out.drewN n
    have hrow:RowL ((w.alloc (.cells #[.string ⟨#[]⟩,.string ⟨#[]⟩] 152)).drewN n) b o L:=(RowL.below HRow.out (bel1 w _)).drew n
    have HP1:HidC _ _ _ _ _:=HP.out _ hrow
    clear HR HS0 HRow HP hrow
    generalize (w.alloc (.cells #[.string ⟨#[]⟩,.string ⟨#[]⟩] 152)).drewN n=W1 at *
    obtain ⟨_,r1,r2⟩:=HS1.out.rd.cells
    have HS2:Hid _:=HS1.out.set p1
    have HT3:HidC _ _ _ _ _:=HT1.out _ HS2.out.rd
    clear HT1 HS1
    go_wp2_with (first | (go_at_call 55;refine (HW.out _).mono ?_;rintro e1 w1 ⟨rfl,rfl⟩) | (go_at_call 80;refine (HN.out _).mono ?_;rintro e1 w1 ⟨rfl,rfl⟩) | (go_at_call 81;refine (HP1.out).mono ?_;rintro e1 w1 ⟨rfl,rfl⟩))
    refine (HT3.out).mono ?_
    rintro e w2 ⟨rfl,hx,hrd⟩
    have HS3:Hid _:=HS2.out.next hx hrd
    clear HT3 HS2 hx hrd r1 r2 HW HN HP1
    obtain ⟨c0,c1,f0,f1⟩:=HS3.out.cells
    go_wp2_with fail
    (try simp only [Exit.inBlock,Exit.then]);refine bodyPost_ret (ret_lab _ w.heap.size _ _ _ rfl (two_set c0 c1).1 (two_set c0 c1).2) rfl ?_
    exact ⟨p1,Or.inl ⟨5,_,_,HO.out,by decide,rfl⟩,HS3.out.fin _ _⟩
  ·rw [if_neg (by decide)] at hO
   have hq1':=hq1 rfl
   generalize hb2:preB (l.drop (p1+1)) [34]=b2 at *
   cases b2
   ·rw [if_pos rfl] at hO
    have HO:Hid _:=hO
    have HT4:Hid _:=fun W=>HT2.out W hq1'
    clear hO HT2 HV HCl hq1 hq2 hb1 hb2
    as_aux_lemma =>
     go_enter Tryz.func178,Tryz.ntmps178
     go_wp2_with fail
     refine (HR.out _ HS0.out.rd).mono ?_
     rintro e w1 ⟨rfl,n,rfl⟩
     have HS1:Hid _:=HS0.out.drewN n
     have hrow:RowL ((w.alloc (.cells #[.string ⟨#[]⟩,.string ⟨#[]⟩] 152)).drewN n) b o L:=(RowL.below HRow.out (bel1 w _)).drew n
     have HP1:HidC _ _ _ _ _:=HP.out _ hrow
     clear HR HS0 HRow HP hrow
     generalize (w.alloc (.cells #[.string ⟨#[]⟩,.string ⟨#[]⟩] 152)).drewN n=W1 at *
     obtain ⟨_,r1,r2⟩:=HS1.out.rd.cells
     have HS2:Hid _:=HS1.out.set p1
     have HT3:HidC _ _ _ _ _:=HT1.out _ HS2.out.rd
     clear HT1 HS1
     go_wp2_with (first | (go_at_call 55;refine (HW.out _).mono ?_;rintro e1 w1 ⟨rfl,rfl⟩) | (go_at_call 80;refine (HN.out _).mono ?_;rintro e1 w1 ⟨rfl,rfl⟩) | (go_at_call 81;refine (HP1.out).mono ?_;rintro e1 w1 ⟨rfl,rfl⟩))
     refine (HT3.out).mono ?_
     rintro e w2 ⟨rfl,hx,hrd⟩
     have HS3:Hid _:=HS2.out.next hx hrd
     clear HT3 HS2 hx hrd r1 r2 HW HN HP1
     have HT5:HidC _ _ _ _ _:=HT4.out _ HS3.out.rd
     clear HT4
     go_wp2_with fail
     refine (HT5.out).mono ?_
     rintro e w3 ⟨rfl,hx,hrd⟩
     have HS4:Hid _:=HS3.out.next hx hrd
     clear HS3 HT5 hx hrd
     obtain ⟨c0,c1,f0,f1⟩:=HS4.out.cells
     go_wp2_with fail
     (try simp only [Exit.inBlock,Exit.then]);refine bodyPost_ret (ret_lab _ w.heap.size _ _ _ rfl (two_set c0 c1).1 (two_set c0 c1).2) rfl ?_
     exact ⟨p1+1,Or.inl ⟨5,_,_,HO.out,by decide,rfl⟩,HS4.out.fin _ _⟩
   ·rw [if_neg (by decide)] at hO
    have hq2':=hq2 rfl
    have HT4:Hid _:=fun W=>HT2.out W hq1'
    have HV1:Hid _:=fun W=>HV.out W hq2'
    have HO:Hid _:=hO
    have HE:Hid (∀ z k,valR (l.drop (p1+2)) (p1+2)=.error (z,k)→z=5):=fun z k h=>val_err l (p1+2) k z hq2' h
    have HF:Hid (∀ t k,valR (l.drop (p1+2)) (p1+2)=.ok (t,k)→k≤l.length):=fun t k h=>(val_far l (p1+2) k t hq2' h).2.1
    clear hO HT2 HV hq1 hq2 hb1 hb2
    as_aux_lemma =>
     go_enter Tryz.func178,Tryz.ntmps178
     go_wp2_with fail
     refine (HR.out _ HS0.out.rd).mono ?_
     rintro e w1 ⟨rfl,n,rfl⟩
     have HS1:Hid _:=HS0.out.drewN n
     have hrow:RowL ((w.alloc (.cells #[.string ⟨#[]⟩,.string ⟨#[]⟩] 152)).drewN n) b o L:=(RowL.below HRow.out (bel1 w _)).drew n
     have HP1:HidC _ _ _ _ _:=HP.out _ hrow
     clear HR HS0 HRow HP hrow
     generalize (w.alloc (.cells #[.string ⟨#[]⟩,.string ⟨#[]⟩] 152)).drewN n=W1 at *
     obtain ⟨_,r1,r2⟩:=HS1.out.rd.cells
     have HS2:Hid _:=HS1.out.set p1
     have HT3:HidC _ _ _ _ _:=HT1.out _ HS2.out.rd
     clear HT1 HS1
     go_wp2_with (first | (go_at_call 55;refine (HW.out _).mono ?_;rintro e1 w1 ⟨rfl,rfl⟩) | (go_at_call 80;refine (HN.out _).mono ?_;rintro e1 w1 ⟨rfl,rfl⟩) | (go_at_call 81;refine (HP1.out).mono ?_;rintro e1 w1 ⟨rfl,rfl⟩))
     refine (HT3.out).mono ?_
     rintro e w2 ⟨rfl,hx,hrd⟩
     have HS3:Hid _:=HS2.out.next hx hrd
     clear HT3 HS2 hx hrd r1 r2 HW HN HP1
     have HT5:HidC _ _ _ _ _:=HT4.out _ HS3.out.rd
     clear HT4
     go_wp2_with fail
     refine (HT5.out).mono ?_
     rintro e w3 ⟨rfl,hx,hrd⟩
     have HS4:Hid _:=HS3.out.next hx hrd
     have HV2:HidC _ _ _ _ _:=HV1.out _ HS4.out.rd
     clear HS3 HT5 hx hrd HV1
     go_wp2_with fail
     refine (HV2.out).mono ?_
     rintro e w4 ⟨j,hT,hx,hrd⟩
     have HS5:Hid _:=HS4.out.next hx hrd
     clear HS4 HV2 hx hrd
     rcases hT with ⟨k,hv,rfl,rfl⟩ | ⟨t,k,hv,⟨ht,rfl,rfl⟩ | ⟨ht,rfl,rfl⟩⟩
     ·have HO1:Hid _:=HO.out
      have HOO:Hid (oneR l p L=.error (5,j)):=by show _=_;rw [HO.out,hv]
      clear HO HO1 hv
      go_wp2_with fail
      refine (HCl.out _).mono ?_
      rintro e w5 ⟨rfl,hb⟩
      have HS6:Hid _:=HS5.out.below hb
      clear HCl hb HS5
      obtain ⟨c0,c1,f0,f1⟩:=HS6.out.cells
      go_wp2_with fail
      (try simp only [Exit.inBlock,Exit.then]);refine bodyPost_ret (ret_lab _ w.heap.size _ _ _ rfl (two_set c0 c1).1 (two_set c0 c1).2) rfl ?_
      exact ⟨j,Or.inl ⟨5,_,_,HOO.out,by decide,rfl⟩,HS6.out.fin _ _⟩
     ·have HOO:Hid (oneR l p L=.error (txE t,p1+2)):=by show _=_;rw [HO.out,hv];simp only;rw [if_pos ht]
      have HN:Hid _:=ht
      clear HO hv ht
      generalize txE t=tz at *
      go_wp2_with fail
      refine (HCl.out _).mono ?_
      rintro e w5 ⟨rfl,hb⟩
      have HS6:Hid _:=HS5.out.below hb
      clear HCl hb HS5
      obtain ⟨c0,c1,f0,f1⟩:=HS6.out.cells
      go_wp2_with fail
      (try simp only [Exit.inBlock,Exit.then]);refine bodyPost_ret (ret_lab _ w.heap.size _ _ _ rfl (two_set c0 c1).1 (two_set c0 c1).2) rfl ?_
      exact ⟨p1+2,Or.inl ⟨tz,_,_,HOO.out,HN.out,rfl⟩,HS6.out.fin _ _⟩
     ·have HOO:Hid (oneR l p L=.ok ((nm,t),j)):=by show _=_;rw [HO.out,hv];simp only;rw [if_neg (by simp [ht])]
      have HFF:Hid _:=HF.out _ _ hv
      clear HO hv ht HF
      go_wp2_with fail
      refine (HCl.out _).mono ?_
      rintro e w5 ⟨rfl,hb⟩
      have HS6:Hid _:=HS5.out.below hb
      clear HCl hb HS5
      obtain ⟨c0,c1,f0,f1⟩:=HS6.out.cells
      go_wp2_with fail
      (try simp only [Exit.inBlock,Exit.then]);refine bodyPost_ret (ret_lab _ w.heap.size _ _ _ rfl (two_set c0 c1).1 (two_set c0 c1).2) rfl ?_
      exact ⟨j,Or.inr ⟨nm,t,HOO.out,HFF.out,rfl⟩,HS6.out.fin _ _⟩
 ·rw [if_pos g3] at hO
  have HO:Hid _:=hO
  have HN3:Hid _:=g3
  have g3':(pz != 0)=true:=by simpa using g3
  clear hO HT1 HT2 HV HCl hq1 hq2 g3
  as_aux_lemma =>
   go_enter Tryz.func178,Tryz.ntmps178
   go_wp2_with fail
   refine (HR.out _ HS0.out.rd).mono ?_
   rintro e w1 ⟨rfl,n,rfl⟩
   have HS1:Hid _:=HS0.out.drewN n
   have hrow:RowL ((w.alloc (.cells #[.string ⟨#[]⟩,.string ⟨#[]⟩] 152)).drewN n) b o L:=(RowL.below HRow.out (bel1 w _)).drew n
   have HP1:HidC _ _ _ _ _:=HP.out _ hrow
   clear HR HS0 HRow HP hrow
   generalize (w.alloc (.cells #[.string ⟨#[]⟩,.string ⟨#[]⟩] 152)).drewN n=W1 at *
   obtain ⟨c0,c1,f0,f1⟩:=HS1.out.cells
   go_wp2_with (first | (go_at_call 55;refine (HW.out _).mono ?_;rintro e1 w1 ⟨rfl,rfl⟩) | (go_at_call 80;refine (HN.out _).mono ?_;rintro e1 w1 ⟨rfl,rfl⟩) | (go_at_call 81;refine (HP1.out).mono ?_;rintro e1 w1 ⟨rfl,rfl⟩))
   (try simp only [Exit.inBlock,Exit.then]);refine bodyPost_ret (ret_lab _ w.heap.size _ _ _ rfl (two_set c0 c1).1 (two_set c0 c1).2) rfl ?_
   exact ⟨p,Or.inl ⟨pz,_,_,HO.out,HN3.out,rfl⟩,HS1.out.fin _ _⟩
end Go.Proofs.YtlgkfeeclgcgbaaGreatDoor.La
/- THE READER: labels. Own work of the verifier. -/
set_option maxRecDepth 100000
set_option maxHeartbeats 8000000
namespace Go.Proofs.YtlgkfeeclgcgbaaGreatDoor.La
open Go.RowKit
def flL:List Lb→List Value
 | []=>[]
 | c::L=>.string ⟨c.1.toArray⟩::.string ⟨c.2.toArray⟩::flL L
theorem flL_append (A B:List Lb):flL (A++B)=flL A++flL B:=by
 induction A with
 | nil=>rfl
 | cons c A ih=>simp only [List.cons_append,flL,ih]
theorem flL_get (L:List Lb) (i:Nat) (h:i < L.length):(flL L)[i*2]? =some (.string ⟨L[i].1.toArray⟩)∧(flL L)[i*2+1]? =some (.string ⟨L[i].2.toArray⟩):=by
 induction L generalizing i with
 | nil=>simp at h
 | cons c L ih =>
  cases i with
  | zero=>exact ⟨rfl,rfl⟩
  | succ i =>
   have:=ih i (by simpa using h)
   rw [show (i+1)*2=i*2+2 by omega]
   simpa [flL] using this
theorem infoLabel:(Tryz.prog.info? 152).map (fun i=>(i.zero,i.size,i.bytes))=some (some (.agg #[.string ⟨#[]⟩,.string ⟨#[]⟩]),2,32):=by kernel_rfl
def OwnL (B:Nat) (v:Value) (L:List Lb) (W:World):Prop:=W.ownsRow B 152 2 v L.length (flL L)
theorem OwnL.open {B:Nat} {v:Value} {L:List Lb} {W:World} (h:OwnL B v L W):∃ ao b cap,v=.slice ao L.length cap∧(L≠[]→ao=some ⟨b,0,none⟩)∧RowL W b 0 L∧L.length≤cap∧cap≤9223372036854775807:=by
 rcases h.2 with ⟨h1,h2⟩ | ⟨g,cap,cur,hv,hg,hh,h3,h4,h5,h6⟩
 ·have hL:L=[]:=List.length_eq_zero_iff.1 h2
  subst hL
  exact ⟨none,0,0,h1,fun k=>absurd rfl k,(fun i hi=>by simp at hi),Nat.le_refl _,by omega⟩
 ·refine ⟨_,g,cap,hv,fun _=>rfl,fun i hi=>?_,h3,by unfold maxLen at h4;omega⟩
  obtain ⟨e1,e2⟩:=flL_get L i hi
  rw [← h6,List.getElem?_take,if_pos (by omega)] at e1
  rw [← h6,List.getElem?_take,if_pos (by omega)] at e2
  rw [Array.getElem?_toList] at e1 e2
  constructor
  ·show W.cell? ⟨g,0+i*2,none⟩=_
   rw [Nat.zero_add]
   simp [World.cell?,hh,e1]
  ·show W.cell? ⟨g,0+i*2+1,none⟩=_
   rw [Nat.zero_add]
   simp [World.cell?,hh,e2]
theorem Ex.grown {g:Nat} {w W:World} (h:Ex g w W):w.grownBy W (some g):=⟨h.os,h.tape,h.output,h.size,fun k hk hg=>h.block k hk (fun e=>hg (by rw [e]))⟩
theorem OwnL.ex {B g:Nat} {v:Value} {L:List Lb} {W W1:World} (h:OwnL B v L W) (hx:Ex g W W1) (hg:g < B):OwnL B v L W1:=by
 refine World.ownsRow.kept h hx.grown ?_
 rcases h.2 with ⟨h1,_⟩ | ⟨k,cap,cur,hv,hk,_⟩
 ·left;rw [h1];rfl
 ·right;rw [hv];show some k≠some g;intro e;injection e;omega
structure LI (w:World) (g:Nat) (l:List UInt8) (j:Nat) (L:List Lb) (v:Value) (W:World):Prop where
 ex:Ex g w W
 rd:RdAt W g l j
 own:OwnL w.heap.size v L W
 hg:g < w.heap.size
theorem LI.next {w:World} {g j j':Nat} {l:List UInt8} {L:List Lb} {v:Value} {W W1:World} (s:LI w g l j L v W) (hx:Ex g W W1) (hr:RdAt W1 g l j'):LI w g l j' L v W1:=⟨s.ex.trans hx,hr,s.own.ex hx s.hg,s.hg⟩
theorem LI.alloc {w:World} {g j:Nat} {l:List UInt8} {L:List Lb} {v:Value} {W:World} (s:LI w g l j L v W) (o:Obj):LI w g l j L v (W.alloc o):=s.next (Ex.of (bel1 W o)) (s.rd.below (bel1 W o))
theorem LI.push {w:World} {g j:Nat} {l:List UInt8} {L:List Lb} {v v':Value} {W W1:World} (s:LI w g l j L v W) (ob:Obj) (x y:List UInt8) (hown:W1.ownsRow w.heap.size 152 2 v' (L.length+1) (flL L++[.string ⟨x.toArray⟩,.string ⟨y.toArray⟩])) (hgr:(W.alloc ob).grownBy W1 v.ownBlock):LI w g l j (L++[(x,y)]) v' W1:=by
 have s2:=s.alloc ob
 have hrow:∀ k,v.ownBlock=some k→w.heap.size≤k:=fun k hk=>by
  rcases s.own.2 with ⟨h1,_⟩ | ⟨b,cap,cur,hv,hb,_⟩
  ·rw [h1] at hk;cases hk
  ·rw [hv] at hk
   have:b=k:=by injection hk
   omega
 refine ⟨⟨hgr.os.trans s2.ex.os,hgr.tape.trans s2.ex.tape,hgr.output.trans s2.ex.output,Nat.le_trans s2.ex.size hgr.size,fun k hk hg=>?_⟩,?_,?_,s.hg⟩
 ·rw [hgr.block k (Nat.lt_of_lt_of_le hk s2.ex.size) (fun e=>by have:=hrow k e.symm;omega)]
  exact s2.ex.block k hk hg
 ·have hg:=s.hg
  unfold RdAt
  rw [hgr.block g s2.rd.lt (fun e=>by have:=hrow g e.symm;omega)]
  exact s2.rd
 ·unfold OwnL
  rw [List.length_append,flL_append]
  exact hown
def labsF:Nat→List UInt8→Nat→List Lb→Except (Int × Nat) (List Lb × Nat)
 | 0,_,_,_=>.error (0,0)
 | f+1,l,p,L=>match oneR l p L with
  | .error e=>.error e
  | .ok (x,k)=>if preB (l.drop k) [125] then .ok (L++[x],k+1) else if preB (l.drop k) [44] then labsF f l (k+1) (L++[x]) else .error (5,k)
def TellsLs (l:List UInt8) (p B:Nat) (e:Ending) (j:Nat) (W:World):Prop :=
 (∃ z,labsF 17 l p []=.error (z,j)∧z≠0∧e=.returned (.tuple #[.slice none 0 0,.int .i64 z])) ∨
 (∃ L v,labsF 17 l p []=.ok (L,j)∧j≤l.length∧e=.returned (.tuple #[v,.int .i64 0])∧OwnL B v L W)
def sln:Value→Nat
 | .slice _ n _=>n
 | _=>0
theorem cell_two_next (w:World) (o:Obj) (x y:Value) (t:TypeId):∀ j u,[x,y][j]? =some u→((w.alloc o).alloc (.cells #[x,y] t)).cell? ((⟨w.heap.size+1,0,none⟩:Addr).add j)=some u:=by
 have:=cell_two_new (w.alloc o) x y t
 rw [show (w.alloc o).heap.size=w.heap.size+1 from by simp] at this
 exact this
theorem one_many (l:List UInt8) (p:Nat) (L:List Lb) (h:L.length=16):oneR l p L=.error (3,p):=by unfold oneR;rw [if_pos h]
theorem clabs_any (g p:Nat) (l:List UInt8) (hp:p≤l.length) (hl:l.length≤140737488355328) (w:World) (hr:RdAt w g l p) :
  Calls Tryz.prog 167 #[.pointer (some ⟨g,0,none⟩)] w fun r w'=>∃ j,TellsLs l p w.heap.size r j w'∧Ex g w w'∧RdAt w' g l j:=by
 obtain ⟨i0,hi0,hz0,hz1,hz2⟩:=info_parts infoLabel
 obtain ⟨R,hR⟩:∃ R,R=labsF 17 l p []:=⟨_,rfl⟩
 have HR0:Hid (R=labsF (17 - 0) l p []):=hR
 have HRR:Hid (labsF 17 l p []=R):=hR.symm
 have HL:Hid (∀ (j:Nat) (L:List Lb) (ao:Option Addr) (b cap:Nat) (W:World),j≤l.length→(L≠[]→ao=some ⟨b,0,none⟩)→L.length≤9223372036854775807→RdAt W g l j→RowL W b 0 L→Calls Tryz.prog 178 #[.pointer (some ⟨g,0,none⟩),.slice ao L.length cap] W fun r w'=>∃ k,TellsL l j L r k∧Ex g W w'∧RdAt w' g l k):=fun j L ao b cap W h1 h2 h3 h4 h5=>clab_any g j l h1 hl ao b 0 cap L h2 h3 W h4 h5
 have HT:Hid (∀ (c:UInt8) (j:Nat),j≤l.length→∀ W,RdAt W g l j→Calls Tryz.prog 166 #[.pointer (some ⟨g,0,none⟩),.string ⟨#[c]⟩] W fun r w'=>r=.returned (.bool (preB (l.drop j) [c]))∧Ex g W w'∧RdAt w' g l (if preB (l.drop j) [c] then j+1 else j)):=fun c j hj W h=>take_any g j l [c] hj (by omega) W h
 have HI0:Hid (LI w g l p [] (.slice none 0 0) w):=⟨Ex.refl _ _,hr,⟨rfl,Or.inl ⟨rfl,rfl⟩⟩,hr.lt⟩
 have HQ:Hid (∀ c j,preB (l.drop j) [c]=true→j+1≤l.length):=fun c j h=>by rw [pre_one,decide_eq_true_eq] at h;omega
 clear hr hR
 go_enter Tryz.func167,Tryz.ntmps167
 go_wp2_with fail
 go_loopw [4] (fun v W=>∃ (j:Nat) (L:List Lb),j≤l.length∧L.length≤16∧sln v=L.length∧Hid (R=labsF (17 - L.length) l j L)∧Hid (LI w g l j L v W)) (fun v _=>17 - sln v)
 case atStart=>exact ⟨p,[],hp,by simp,rfl,HR0,HI0⟩
 case round =>
  clear HR0 HI0
  obtain ⟨j,L,hj,hL16,hsl,HR,HI⟩:=hrel
  obtain ⟨ao,b,cap,rfl,hao,hrow,hcp,hcm⟩:=HI.out.own.open
  have HL1:HidC _ _ _ _ _:=HL.out j L ao b cap wr hj hao (by omega) HI.out.rd hrow
  clear HL hao hrow hsl
  as_aux_lemma =>
  go_wp2_with fail
  refine (HL1.out).mono ?_
  rintro e w1 ⟨k,hT,hx,hrd⟩
  have HI1:Hid _:=HI.out.next hx hrd
  clear HL1 HI hx hrd
  rcases hT with ⟨z,x,y,ho,hz,rfl⟩ | ⟨a,c,ho,hk,rfl⟩
  ·have HE:Hid (labsF 17 l p []=.error (z,k)):=by
    show _=_
    rw [HRR.out,HR.out,show 17 - L.length=(16 - L.length)+1 from by omega,labsF,ho]
   have hz':(z != 0)=true:=by simpa using hz
   have HZ:Hid _:=hz
   have HI2:Hid (∀ o,LI w g l k L (.slice ao L.length cap) (w1.alloc o)):=fun o=>HI1.out.alloc o
   clear ho hz HRR HR HT HQ HI1
   as_aux_lemma =>
    go_wp2_with fail
    go_ret2
    exact ⟨k,Or.inl ⟨z,HE.out,HZ.out,rfl⟩,(HI2.out _).ex,(HI2.out _).rd⟩
  ·have hlt:L.length < 16:=by
    rcases Nat.lt_or_ge L.length 16 with h | h
    ·exact h
    ·rw [one_many l j L (by omega)] at ho;cases ho
   have hR2:R=if preB (l.drop k) [125] then .ok (L++[(a,c)],k+1) else if preB (l.drop k) [44] then labsF (17 - (L.length+1)) l (k+1) (L++[(a,c)]) else .error (5,k):=by
    rw [HR.out,show 17 - L.length=(17 - (L.length+1))+1 from by omega,labsF,ho]
   have HI2:Hid (LI w g l k L (.slice ao L.length cap) (w1.alloc (.cells #[.string ⟨a.toArray⟩,.string ⟨c.toArray⟩] 152))):=HI1.out.alloc _
   have HT1:Hid _:=HT.out 125 k hk
   have HT2:Hid _:=HT.out 44 k hk
   have HQ1:=HQ.out 44 k
   have HQ2:=HQ.out 125 k
   have HRR2:Hid (R=_):=hR2
   have hsz:w.heap.size≤w1.heap.size:=HI1.out.ex.size
   clear ho HR HT HQ HI1 hR2
   go_wp2_with (first | (at_builtin;refine wpList_append_own _ rfl _ _ 58 rfl w.heap.size 152 i0 (.agg #[.string ⟨#[]⟩,.string ⟨#[]⟩]) 2 32 Tryz.underlying58 hi0 hz0 hz1 hz2 rfl (by decide) _ _ _ rfl (World.ownsRow.alloc HI2.out.own _) ⟨_,0,none⟩ 1 1 [_,_] rfl rfl (cell_two_next _ _ _ _ _) (by intro u hu;simp at hu;rcases hu with rfl | rfl <;> rfl) (by unfold maxLen;omega) (by omega) (by simp;omega) ?_;intro v' w7 hown hgrow hnil;have HI7:Hid (LI w g l k (L++[(a,c)]) v' w7):=HI2.out.push _ a c hown hgrow;clear hown hgrow hnil HI2))
   have HT3:HidC _ _ _ _ _:=HT1.out w7 HI7.out.rd
   have HT4:Hid _:=HT2.out
   obtain ⟨ao',b',cap',hv',_,_,_,_⟩:=HI7.out.own.open
   have hsl:sln v'=L.length+1:=by rw [hv',List.length_append];rfl
   clear HT1 HT2 hv'
   go_wp2_with fail
   refine (HT3.out).mono ?_
   rintro e w8 ⟨rfl,hx,hrd⟩
   have HI8:Hid _:=HI7.out.next hx hrd
   clear HT3 HI7 hx hrd
   generalize preB (l.drop k) [125]=b1 at *
   cases b1
   ·have HI9:Hid (LI w g l k (L++[(a,c)]) v' w8):=HI8.out
    have HT5:HidC _ _ _ _ _:=HT4.out w8 HI9.out.rd
    have hR2:=HRR2.out
    rw [if_neg (by decide)] at hR2
    clear HI8 HT4 HRR2
    go_wp2_with fail
    refine (HT5.out).mono ?_
    rintro e w9 ⟨rfl,hx,hrd⟩
    have HIa:Hid _:=HI9.out.next hx hrd
    clear HT5 HI9 hx hrd
    generalize preB (l.drop k) [44]=b2 at *
    cases b2
    ·rw [if_neg (by decide)] at hR2
     have HE:Hid (labsF 17 l p []=.error (5,k)):=HRR.out.trans hR2
     have HIb:Hid (LI w g l k (L++[(a,c)]) v' w9):=HIa.out
     clear hR2 HRR HIa
     as_aux_lemma =>
      go_wp2_with fail
      go_ret2
      exact ⟨k,Or.inl ⟨5,HE.out,by decide,rfl⟩,HIb.out.ex,HIb.out.rd⟩
    ·rw [if_pos rfl] at hR2
     have HE:Hid (R=labsF (17 - (L++[(a,c)]).length) l (k+1) (L++[(a,c)])):=by show _=_;rw [hR2,List.length_append];rfl
     have HIb:Hid (LI w g l (k+1) (L++[(a,c)]) v' w9):=HIa.out
     have hk1:=HQ1 rfl
     clear hR2 HRR HIa HQ1 HQ2
     as_aux_lemma =>
      go_wp2_with fail
      exact ⟨⟨k+1,L++[(a,c)],hk1,by simp;omega,by rw [hsl];simp,HE,HIb⟩,by show 17 - sln v' < 17 - L.length;rw [hsl];omega⟩
   ·have hR2:=HRR2.out
    rw [if_pos rfl] at hR2
    have HE:Hid (labsF 17 l p []=.ok (L++[(a,c)],k+1)):=HRR.out.trans hR2
    have HI9:Hid (LI w g l (k+1) (L++[(a,c)]) v' w8):=HI8.out
    have hk1:=HQ2 rfl
    clear hR2 HRR2 HRR HI8 HT4 HQ1 HQ2
    as_aux_lemma =>
     go_wp2_with fail
     go_ret2
     exact ⟨k+1,Or.inr ⟨L++[(a,c)],v',HE.out,hk1,rfl,HI9.out.own⟩,HI9.out.ex,HI9.out.rd⟩
end Go.Proofs.YtlgkfeeclgcgbaaGreatDoor.La
