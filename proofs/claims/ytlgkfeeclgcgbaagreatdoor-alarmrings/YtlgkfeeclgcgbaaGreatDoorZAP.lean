/- THE CODE'S isRight, checkText, checkPlace, checkLabel. Own work of the verifier. -/
import Derived.Test.YtlgkfeeclgcgbaaGreatDoorZAO
import Derived.Test.YtlgkfeeclgcgbaaGreatDoorZAM
set_option maxRecDepth 100000
set_option maxHeartbeats 4000000
namespace Go.Proofs.YtlgkfeeclgcgbaaGreatDoor.La
open Go.RowKit
theorem below_iter (w:World) (s:ByteArray) (p:Nat):Below w.heap.size w (w.iter s p):=(Below.refl _ _).alloc (Nat.le_refl _) _
theorem right_any (l:List UInt8) (hl:l.length≤4611686018427387904) (w:World) :
  Calls Tryz.prog 79 #[.string ⟨l.toArray⟩] w fun r w'=>r=.returned (.bool (utfB l))∧Below w.heap.size w w':=by
 obtain ⟨R,hR⟩:∃ R,R=utfB l:=⟨_,rfl⟩
 rw [← hR]
 have HR0:Hid (R=utfB (l.drop 0)):=by show R=_;rw [hR,List.drop_zero]
 clear hR
 go_enter Tryz.func79,Tryz.ntmps79
 go_wp2_with fail
 go_loopw [] (fun W=>∃ pos:Nat,pos≤l.length∧Hid (R=utfB (l.drop pos))∧W=w.iter ⟨l.toArray⟩ pos) (fun W=>l.length - W.iterPos w.heap.size)
 case atStart=>exact ⟨0,by omega,HR0,rfl⟩
 case round =>
  obtain ⟨pos,hpos,HR,hw⟩:=hrel
  subst wr
  clear HR0
  have hsz:(ByteArray.mk l.toArray).size=l.length:=by show l.toArray.size=_;simp
  by_cases hlt:pos < l.length
  ·have hnx:∀ ty,(Instr.next (.pointer (some ⟨w.heap.size,0,none⟩)) true ty).run Tryz.prog (w.iter ⟨l.toArray⟩ pos)=_:=fun ty=>run_next_any w ⟨l.toArray⟩ pos ty (by rw [hsz];exact hlt)
   obtain ⟨r,n,hd⟩:∃ r n,Utf8.decode ⟨l.toArray⟩ pos=(r,n):=⟨_,_,rfl⟩
   rw [hd] at hnx
   simp only at hnx
   obtain ⟨h1,h2,h3,h4⟩:=utf_step l pos r n hlt hd
   have hdr:=drop_bytes l pos
   have HP:Hid _:=fun W=>pre_any (l.drop pos) [239,191,189] W
   have hp:=pre_three l pos hlt
   rcases h4 with ⟨hb,hu⟩ | ⟨hb,hu⟩
   ·have hr:((r:Int) == 65533)=true:=by rw [beq_iff_eq];have:=hb.1;omega
    rw [decide_eq_false hb.2] at hp
    rw [hp] at HP
    have HF:Hid (R=false):=HR.out.trans hu
    clear HR hb hu hp hd hsz
    as_aux_lemma =>
     go_wp2_with (go_at_call 110;refine (HP.out _).mono ?_;rintro e1 w1 ⟨rfl,rfl⟩)
     go_ret
     exact ⟨congrArg (fun z:Bool=>Ending.returned (Value.bool z)) HF.out.symm,below_iter _ _ _⟩
   ·have HR':Hid (R=utfB (l.drop (pos+n))):=HR.out.trans hu
    by_cases hr0:r=65533
    ·have hr:((r:Int) == 65533)=true:=by rw [beq_iff_eq];omega
     rw [decide_eq_true (Classical.byContradiction (fun k=>hb ⟨hr0,k⟩))] at hp
     rw [hp] at HP
     clear HR hb hu hp hd hsz hr0
     as_aux_lemma =>
      go_wp2_with (go_at_call 110;refine (HP.out _).mono ?_;rintro e1 w1 ⟨rfl,rfl⟩)
      exact ⟨⟨pos+n,by omega,HR',rfl⟩,by rw [World.iterPos_iter,World.iterPos_iter];omega⟩
    ·have hr:((r:Int) == 65533)=false:=by rw [beq_eq_false_iff_ne];omega
     clear HR hb hu hp hd hsz hr0 HP
     as_aux_lemma =>
      go_wp2_with fail
      exact ⟨⟨pos+n,by omega,HR',rfl⟩,by rw [World.iterPos_iter,World.iterPos_iter];omega⟩
  ·have hnx:∀ ty,(Instr.next (.pointer (some ⟨w.heap.size,0,none⟩)) true ty).run Tryz.prog (w.iter ⟨l.toArray⟩ pos)=_:=fun ty=>run_next_end w ⟨l.toArray⟩ pos ty (by rw [hsz];exact hlt)
   have HF:Hid (R=true):=by
    have:=HR.out
    rw [List.drop_eq_nil_of_le (by omega),utfB] at this
    exact this
   clear HR hsz
   as_aux_lemma =>
    go_wp2_with fail
    go_ret
    exact ⟨congrArg (fun z:Bool=>Ending.returned (Value.bool z)) HF.out.symm,below_iter _ _ _⟩
theorem ctext_any (l:List UInt8) (hl:l.length≤4611686018427387904) (w:World) :
  Calls Tryz.prog 63 #[.string ⟨l.toArray⟩] w fun r w'=>r=.returned (.int .i64 (txE l))∧Below w.heap.size w w':=by
 have HU:Hid _:=fun W=>right_any l hl W
 unfold txE
 by_cases h:1024 < l.length
 ·have h':¬ (l.length:Int)≤1024:=by omega
  have h'':(1024:Int) < (l.length:Int):=by omega
  rw [if_pos h]
  as_aux_lemma =>
   go_enter Tryz.func63,Tryz.ntmps63
   go_wp2_with fail
   go_ret
   exact ⟨rfl,Below.refl _ _⟩
 ·have h':(l.length:Int)≤1024:=by omega
  have h'':¬ (1024:Int) < (l.length:Int):=by omega
  rw [if_neg h]
  cases hU:utfB l
  ·rw [hU] at HU
   rw [if_neg (by decide)]
   as_aux_lemma =>
    go_enter Tryz.func63,Tryz.ntmps63
    go_wp2_with (go_at_call 79;refine (HU.out _).mono ?_;rintro e1 w1 ⟨rfl,hb⟩)
    go_ret
    exact ⟨rfl,hb⟩
  ·rw [hU] at HU
   rw [if_pos rfl]
   as_aux_lemma =>
    go_enter Tryz.func63,Tryz.ntmps63
    go_wp2_with (go_at_call 79;refine (HU.out _).mono ?_;rintro e1 w1 ⟨rfl,hb⟩)
    go_ret
    exact ⟨rfl,hb⟩
def plE (A:List Lb) (n:List UInt8):Int:=if A.length=0 then 0 else bhE (A.getD (A.length - 1) ([],[])).1 n
theorem place_any (ao:Option Addr) (b o cap:Nat) (A:List Lb) (hao:A≠[]→ao=some ⟨b,o,none⟩) (hl:A.length≤9223372036854775807) (n:List UInt8) (w:World) (hA:RowL w b o A) :
  Calls Tryz.prog 81 #[.slice ao A.length cap,.string ⟨n.toArray⟩] w fun r w'=>r=.returned (.int .i64 (plE A n))∧w'=w:=by
 unfold plE
 by_cases h0:A.length=0
 ·have e0:((A.length:Int) == 0)=true:=by rw [beq_iff_eq];omega
  rw [if_pos h0]
  clear h0
  as_aux_lemma =>
   go_enter Tryz.func81,Tryz.ntmps81
   go_wp2_with fail
   go_ret
   exact ⟨rfl,rfl⟩
 ·have e0:((A.length:Int) == 0)=false:=by rw [beq_eq_false_iff_ne];omega
  rw [if_neg h0]
  have hne:A≠[]:=fun e=>h0 (by rw [e];rfl)
  obtain rfl:=hao hne
  obtain ⟨m,hm⟩:∃ m,m+1=A.length:=⟨A.length - 1,by omega⟩
  have hml:m < A.length:=by omega
  have hw:IntKind.i64.wrap ((A.length:Int) - 1)=(m:Int):=by
   rw [IntKind.wrap_i64];omega
  obtain ⟨g1,g2⟩:=hA m hml
  have hg:A.getD (A.length - 1) ([],[])=A[m]:=by
   rw [show A.length - 1=m from by omega,List.getD_eq_getElem?_getD,List.getElem?_eq_getElem hml];rfl
  rw [hg]
  clear hg
  generalize A[m].1=q at *
  generalize A[m].2=q2 at *
  have hix:=index_lab b o A.length cap m (m:Int) rfl hml
  unfold bhE
  by_cases hq:q=n
  ·subst hq
   rw [if_pos rfl]
   clear hne h0 hm
   as_aux_lemma =>
    go_enter Tryz.func81,Tryz.ntmps81
    go_wp2_with fail
    go_ret
    exact ⟨rfl,rfl⟩
  ·have hq':(n == q)=false:=by rw [beq_eq_false_iff_ne];exact fun e=>hq e.symm
   rw [if_neg hq]
   have hls:=less_list n q
   cases hb:bltB n q
   ·rw [hb] at hls
    rw [if_neg (by decide)]
    clear hne h0 hm hq hb
    as_aux_lemma =>
     go_enter Tryz.func81,Tryz.ntmps81
     go_wp2_with fail
     go_ret
     exact ⟨rfl,rfl⟩
   ·rw [hb] at hls
    rw [if_pos rfl]
    clear hne h0 hm hq hb
    as_aux_lemma =>
     go_enter Tryz.func81,Tryz.ntmps81
     go_wp2_with fail
     go_ret
     exact ⟨rfl,rfl⟩
end Go.Proofs.YtlgkfeeclgcgbaaGreatDoor.La
/- THE CODE'S checkLabel AND Check. Own work of the verifier. -/
set_option maxRecDepth 100000
set_option maxHeartbeats 4000000
namespace Go.Proofs.YtlgkfeeclgcgbaaGreatDoor.La
open Go.RowKit
def lbE (A:List Lb) (a:Lb):Int:=if lnameB a.1=false then 9 else if txE a.2≠0 then txE a.2 else plE A a.1
theorem clabel_any (ao:Option Addr) (b o cap:Nat) (A:List Lb) (hao:A≠[]→ao=some ⟨b,o,none⟩) (hl:A.length≤9223372036854775807) (x y:List UInt8) (hx:x.length≤4611686018427387904) (hy:y.length≤4611686018427387904) (w:World) (hA:RowL w b o A) :
  Calls Tryz.prog 64 #[.slice ao A.length cap,.agg #[.string ⟨x.toArray⟩,.string ⟨y.toArray⟩]] w fun r w'=>r=.returned (.int .i64 (lbE A (x,y)))∧Below w.heap.size w w':=by
 have HL:Hid _:=fun W=>clname_any x hx W
 have HT:Hid _:=fun W=>ctext_any y hy W
 have HP:Hid (∀ W,RowL W b o A→Calls Tryz.prog 81 #[.slice ao A.length cap,.string ⟨x.toArray⟩] W fun r w'=>r=.returned (.int .i64 (plE A x))∧w'=W):=fun W hW=>place_any ao b o cap A hao hl x W hW
 have HA:Hid (RowL w b o A):=hA
 unfold lbE
 simp only
 generalize lnameB x=lb at *
 generalize txE y=tz at *
 generalize plE A x=pz at *
 clear hA hao
 cases lb
 ·rw [if_pos rfl]
  clear HT HP HA
  as_aux_lemma =>
   go_enter Tryz.func64,Tryz.ntmps64
   go_wp2_with (go_at_call 80;refine (HL.out _).mono ?_;rintro e1 w1 ⟨rfl,rfl⟩)
   go_ret
   exact ⟨rfl,bel1 w _⟩
 ·rw [if_neg (by decide)]
  by_cases e1:tz=0
  ·subst e1
   rw [if_neg (by decide)]
   as_aux_lemma =>
    go_enter Tryz.func64,Tryz.ntmps64
    go_wp2_with (go_at_call 80;refine (HL.out _).mono ?_;rintro e1 w1 ⟨rfl,rfl⟩)
    refine (HT.out _).mono ?_
    rintro e1 w1 ⟨rfl,hb⟩
    have hb0:Below w.heap.size w w1:=(bel1 w _).trans (hb.mono (by simp))
    have c0:=hb.cell (p:=⟨w.heap.size,0,none⟩) (by simp)
    have r1:RowL w1 b o A:=RowL.below HA.out hb0
    have HP1:Hid (Calls Tryz.prog 81 #[.slice ao A.length cap,.string ⟨x.toArray⟩] w1 fun r w'=>r=.returned (.int .i64 pz)∧w'=w1):=HP.out w1 r1
    clear HL HT HP HA hb r1
    simp [go_sem] at c0
    go_wp2_with (go_at_call 81;refine (HP1.out).mono ?_;rintro e2 w2 ⟨rfl,rfl⟩)
    go_ret
    exact ⟨rfl,hb0⟩
  ·rw [if_pos e1]
   have e1':(tz != 0)=true:=by simpa using e1
   clear HP HA e1
   as_aux_lemma =>
    go_enter Tryz.func64,Tryz.ntmps64
    go_wp2_with (go_at_call 80;refine (HL.out _).mono ?_;rintro e1 w1 ⟨rfl,rfl⟩)
    refine (HT.out _).mono ?_
    rintro e1 w1 ⟨rfl,hb⟩
    have hb0:Below w.heap.size w w1:=(bel1 w _).trans (hb.mono (by simp))
    go_wp2_with fail
    go_ret
    exact ⟨rfl,hb0⟩
def DsC (W:World) (d:Ds) (v:Value):Prop:=∃ (ao:Option Addr) (b o cap:Nat),v=.agg #[.int .i64 d.kind,.string ⟨d.name.toArray⟩,.string ⟨d.help.toArray⟩,.slice ao d.labels.length cap]∧(d.labels≠[]→ao=some ⟨b,o,none⟩)∧d.labels.length≤cap∧cap≤9223372036854775807∧RowL W b o d.labels
theorem rowL_take {W:World} {b o:Nat} {A:List Lb} (h:RowL W b o A) (i:Nat):RowL W b o (A.take i):=fun j hj=>by
 rw [List.length_take] at hj
 have:=h j (by omega)
 rw [List.getElem_take]
 exact this
theorem chk_step (A:List Lb) (i:Nat) (h:i < A.length):chkL (A.drop i) (prv A i)=if lbE (A.take i) A[i]≠0 then lbE (A.take i) A[i] else chkL (A.drop (i+1)) (prv A (i+1)):=by
 rw [chkL_drop A i _ h,prv_succ A i h]
 unfold lbE plE
 have hlen:(A.take i).length=i:=by rw [List.length_take];omega
 rw [hlen]
 cases lnameB A[i].1 with
 | false=>simp
 | true =>
  simp only [Bool.true_eq_false,if_false]
  by_cases e1:txE A[i].2=0
  ·rw [e1]
   simp only [ne_eq,not_true_eq_false,if_false]
   by_cases e2:i=0
   ·rw [if_pos e2]
    have:prv A i=none:=by unfold prv;rw [if_pos e2]
    rw [this]
    simp
   ·rw [if_neg e2]
    have hp:prv A i=some (A[i - 1]'(by omega)).1:=by unfold prv;rw [if_neg e2,List.getElem?_eq_getElem (by omega)];rfl
    have hg:(A.take i).getD (i - 1) ([],[])=A[i - 1]'(by omega):=by
     rw [List.getD_eq_getElem?_getD,List.getElem?_take,if_pos (by omega),List.getElem?_eq_getElem (by omega)];rfl
    rw [hp,hg]
  ·simp only [ne_eq,e1,not_false_eq_true,if_true]
theorem keepC {w W W1:World} {ao:Option Addr} {b o cap i:Nat} {A:List Lb} {x y:Value} (hb:Below W.heap.size W W1)
  (h:W.cell? ⟨w.heap.size,3,none⟩=some (.slice ao A.length cap)∧W.cell? ⟨b,o+i*2,none⟩=some x∧W.cell? ⟨b,o+i*2+1,none⟩=some y∧KH w ao b o cap A W) :
  W1.cell? ⟨w.heap.size,3,none⟩=some (.slice ao A.length cap)∧W1.cell? ⟨b,o+i*2,none⟩=some x∧W1.cell? ⟨b,o+i*2+1,none⟩=some y∧KH w ao b o cap A W1:=by
 obtain ⟨h1,h2,h3,h4⟩:=h
 exact ⟨(hb.cell (lt_of_cell h1)).trans h1,(hb.cell (lt_of_cell h2)).trans h2,(hb.cell (lt_of_cell h3)).trans h3,h4.below hb⟩
theorem ccheck_any (d:Ds) (v:Value) (w:World) (hd:DsC w d v) (hs:DsS d) :
  Calls Tryz.prog 49 #[v] w fun r w'=>r=.returned (.int .i64 (chkD d))∧Below w.heap.size w w':=by
 obtain ⟨ao,b,o,cap,rfl,h1,hc1,hc2,h3⟩:=hd
 obtain ⟨kd,n,h,A⟩:=d
 simp only at hc1
 obtain ⟨s1,s2,s3⟩:=hs
 have HN:Hid _:=fun W=>cname_any n s1 W
 have HH:Hid _:=fun W=>ctext_any h s2 W
 have HLb:Hid (∀ (i:Nat) (hi:i < A.length) (W:World),RowL W b o A→Calls Tryz.prog 64 #[.slice (some ⟨b,o,none⟩) i cap,.agg #[.string ⟨A[i].1.toArray⟩,.string ⟨A[i].2.toArray⟩]] W fun r w'=>r=.returned (.int .i64 (lbE (A.take i) A[i]))∧Below W.heap.size W w'):=fun i hi W hW=>by
  have hlen:(A.take i).length=i:=by rw [List.length_take];omega
  have:=clabel_any (some ⟨b,o,none⟩) b o cap (A.take i) (fun _=>rfl) (by omega) A[i].1 A[i].2 (s3 _ (List.getElem_mem hi)).1 (s3 _ (List.getElem_mem hi)).2 W (rowL_take hW i)
  rw [hlen] at this
  exact this
 have HK0:Hid (∀ t,KH w ao b o cap A (w.alloc (.cells #[.int .i64 kd,.string ⟨n.toArray⟩,.string ⟨h.toArray⟩,.slice ao A.length cap] t))):=fun t=>⟨by simp [go_sem],h3.below (bel1 w _),bel1 w _⟩
 have hD:chkD ⟨kd,n,h,A⟩=if kd < 1∨3 < kd then 7 else if nameB n=false then 9 else if txE h≠0 then txE h else if 16 < A.length then 3 else chkL A none:=rfl
 rw [hD]
 clear hD h3 s1 s2 s3
 by_cases g1:kd < 1∨3 < kd
 ·rw [if_pos g1]
  have k1:(kd != 1)=true:=by simp;omega
  have k2:(kd != 2)=true:=by simp;omega
  have k3:(kd != 3)=true:=by simp;omega
  clear HN HH HLb HK0
  as_aux_lemma =>
   go_enter Tryz.func49,Tryz.ntmps49
   go_wp2_with fail
   go_ret
   exact ⟨rfl,bel1 w _⟩
 rw [if_neg g1]
 have HG:Hid (kd=1∨kd=2∨kd=3):=by show _∨_;omega
 clear g1
 generalize nameB n=nb at *
 obtain ⟨z,hz⟩:∃ z,z=txE h:=⟨_,rfl⟩
 rw [← hz] at HH ⊢
 obtain ⟨R,hR⟩:∃ R,R=chkL A none:=⟨_,rfl⟩
 rw [← hR]
 have HR0:Hid (R=chkL (A.drop 0) (prv A 0)):=hR
 obtain ⟨F,hF⟩:∃ F,F=if nb=false then 9 else if z≠0 then z else if 16 < A.length then 3 else R:=⟨_,rfl⟩
 rw [← hF]
 clear hz hR
 have HFF:Hid (F=if nb=false then 9 else if z≠0 then z else if 16 < A.length then 3 else R):=hF
 clear hF
 go_enter Tryz.func49,Tryz.ntmps49
 go_upto_region 1 with fail
 go_cut [18] (fun v W=>v=.bool false∧W=w.alloc (.cells #[.int .i64 kd,.string ⟨n.toArray⟩,.string ⟨h.toArray⟩,.slice ao A.length cap] 81))
 case first =>
  clear HN HH HLb HK0 HR0
  rcases HG.out with e | e | e <;> subst e <;> as_aux_lemma =>
   go_wp2_with fail
   go_meet
   exact ⟨rfl,rfl⟩
 case rest =>
 obtain ⟨rfl,rfl⟩:=hcut
 clear HG
 have hF:=HFF.out
 clear HFF
 cases nb
 ·rw [if_pos rfl] at hF
  have HF:Hid _:=hF
  clear HH HLb HK0 HR0 hF
  as_aux_lemma =>
   go_wp2_with (go_at_call 22;refine (HN.out _).mono ?_;rintro e1 w1 ⟨rfl,rfl⟩)
   go_ret
   exact ⟨retI HF.out.symm,bel1 w _⟩
 rw [if_neg (by decide)] at hF
 by_cases g3:z=0
 ·subst g3
  rw [if_neg (by decide)] at hF
  have HFF:Hid _:=hF
  clear hF
  go_wp2_with (go_at_call 22;refine (HN.out _).mono ?_;rintro e1 w1 ⟨rfl,rfl⟩)
  refine (HH.out _).mono ?_
  rintro e1 w1 ⟨rfl,hb⟩
  have HK1:Hid (KH w ao b o cap A w1):=(HK0.out _).below hb
  have f1:=HK1.out.f
  clear HN HH HK0 hb
  by_cases g4:16 < A.length
  ·have g4':(16:Int) < (A.length:Int):=by omega
   have hF:=HFF.out
   rw [if_pos g4] at hF
   have HF:Hid _:=hF
   have hbl:=HK1.out.bl
   clear HLb HR0 HK1 HFF hF
   as_aux_lemma =>
    go_wp2_with fail
    go_ret
    exact ⟨retI HF.out.symm,hbl⟩
  have g4':¬ (16:Int) < (A.length:Int):=by omega
  have HFR:Hid (F=R):=by
   have hF:=HFF.out
   rw [if_neg g4] at hF
   exact hF
  clear g4 HFF
  go_wp2_with fail
  go_loopw [36] (fun a W=>∃ i:Nat,i≤A.length∧a=.int .i64 (i:Int)∧Hid (R=chkL (A.drop i) (prv A i))∧Hid (KH w ao b o cap A W)) (fun a _=>A.length - (intOf a).toNat)
  case atStart=>exact ⟨0,by omega,rfl,HR0,HK1⟩
  case round =>
   clear HK1 HR0 f1
   obtain ⟨i,hi,rfl,HR,HK⟩:=hrel
   have f1:=HK.out.f
   by_cases hlt:i < A.length
   ·have hlt':(i:Int) < (A.length:Int):=by omega
    obtain rfl:=h1 (by intro k;change A=[] at k;rw [k] at hlt;simp at hlt)
    obtain ⟨q1,q2⟩:=HK.out.r i hlt
    have hS:=HR.out
    rw [chk_step A i hlt] at hS
    have HL1:Hid _:=HLb.out i hlt
    generalize lbE (A.take i) A[i]=bz at *
    generalize A[i].1=x1 at *
    generalize A[i].2=x2 at *
    have hic:(i:Int)≤(cap:Int):=by omega
    clear HR HLb
    as_aux_lemma =>
    go_upto_region 13 with fail
    have hG0:wr.cell? ⟨w.heap.size,3,none⟩=some (.slice (some ⟨b,o,none⟩) A.length cap)∧wr.cell? ⟨b,o+i*2,none⟩=some (.string ⟨x1.toArray⟩)∧wr.cell? ⟨b,o+i*2+1,none⟩=some (.string ⟨x2.toArray⟩)∧KH w (some ⟨b,o,none⟩) b o cap A wr:=⟨f1,q1,q2,HK.out⟩
    go_cut [5] from 37 to 52 (fun v W=>v=.int .i64 bz∧Hid (KH w (some ⟨b,o,none⟩) b o cap A W))
    case first =>
     clear hS
     as_aux_lemma =>
      go_region_held3 (fun W=>W.cell? ⟨w.heap.size,3,none⟩=some (.slice (some ⟨b,o,none⟩) A.length cap)∧W.cell? ⟨b,o+i*2,none⟩=some (.string ⟨x1.toArray⟩)∧W.cell? ⟨b,o+i*2+1,none⟩=some (.string ⟨x2.toArray⟩)∧KH w (some ⟨b,o,none⟩) b o cap A W)
       (first | assumption | exact keepC (by assumption) (by assumption) | exact keepC (bel_drew (Below.refl _ _)) hG0 | exact keepC (bel_drewN (Below.refl _ _) _) hG0)
       (first | (go_at_call 64;with_reducible refine (HL1.out _ (KH.r (by first | assumption | exact (keepC (bel_drew (Below.refl _ _)) hG0).2.2.2 | exact (keepC (bel_drewN (Below.refl _ _) _) hG0).2.2.2))).mono ?_;rintro r w1 ⟨rfl,hb1⟩))
      rename_i hG1
      go_wp2_with fail
      go_meet
      exact ⟨rfl,hG1.2.2.2⟩
    case rest =>
    obtain ⟨rfl,HK5⟩:=hcut
    clear HL1 q1 q2 f1 HK hG0
    by_cases e2:bz=0
    ·subst e2
     rw [if_neg (by decide)] at hS
     have HF:Hid (R=chkL (A.drop (i+1)) (prv A (i+1))):=hS
     clear hS
     as_aux_lemma =>
      go_wp2_with fail
      exact ⟨⟨i+1,by omega,by go_num,HF,HK5⟩,by simp [intOf];omega⟩
    ·have e2':(bz != 0)=true:=by simpa using e2
     rw [if_pos e2] at hS
     have HF:Hid _:=hS
     have hbl:=HK5.out.bl
     clear hS e2 HK5
     as_aux_lemma =>
      go_wp2_with fail
      go_ret
      exact ⟨retI (HFR.out.trans HF.out).symm,hbl⟩
   ·have hlt':¬ (i:Int) < (A.length:Int):=by omega
    have hS:=HR.out
    rw [List.drop_eq_nil_of_le (by omega),chkL] at hS
    have HF:Hid _:=hS
    have hbl:=HK.out.bl
    clear HR HK hS HLb
    as_aux_lemma =>
     go_wp2_with fail
     go_ret
     exact ⟨retI (HFR.out.trans HF.out).symm,hbl⟩
 ·rw [if_pos g3] at hF
  have HF:Hid _:=hF
  have g3':(z != 0)=true:=by simpa using g3
  clear HLb HK0 HR0 g3 hF
  as_aux_lemma =>
   go_wp2_with (go_at_call 22;refine (HN.out _).mono ?_;rintro e1 w1 ⟨rfl,rfl⟩)
   refine (HH.out _).mono ?_
   rintro e1 w1 ⟨rfl,hb⟩
   have hb0:Below w.heap.size w w1:=(bel1 w _).trans (hb.mono (by simp))
   go_wp2_with fail
   go_ret
   exact ⟨retI HF.out.symm,hb0⟩
end Go.Proofs.YtlgkfeeclgcgbaaGreatDoor.La
/- THE CODE'S Compare AND Same. Own work of the verifier. -/
set_option maxRecDepth 100000
set_option maxHeartbeats 4000000
namespace Go.Proofs.YtlgkfeeclgcgbaaGreatDoor.La
open Go.RowKit
def ordB (a b:Lb):Int:=if ordE a.1 b.1≠0 then ordE a.1 b.1 else ordE a.2 b.2
theorem ordL_cons (a b:Lb) (A B:List Lb):ordL (a::A) (b::B)=if ordB a b≠0 then ordB a b else ordL A B:=by
 rw [ordL]
 unfold ordB
 by_cases h1:ordE a.1 b.1=0
 ·simp only [h1,ne_eq,not_true_eq_false,if_false]
 ·simp only [ne_eq,h1,not_false_eq_true,if_true]
theorem cmpl_any (x1 x2 y1 y2:List UInt8) (w:World) :
  Calls Tryz.prog 123 #[.agg #[.string ⟨x1.toArray⟩,.string ⟨x2.toArray⟩],.agg #[.string ⟨y1.toArray⟩,.string ⟨y2.toArray⟩]] w fun r w'=>r=.returned (.int .i64 (ordB (x1,x2) (y1,y2)))∧Below w.heap.size w w':=by
 have H1:Hid _:=fun W=>cmp_any x1 y1 W
 have H2:Hid _:=fun W=>cmp_any x2 y2 W
 unfold ordB
 simp only
 generalize ordE x1 y1=z1 at *
 generalize ordE x2 y2=z2 at *
 by_cases e1:z1=0
 ·subst e1
  rw [if_neg (by decide)]
  as_aux_lemma =>
   go_enter Tryz.func123,Tryz.ntmps123
   go_wp2_with (go_at_call 121;first | (with_reducible refine (H1.out _).mono ?_;rintro e1 w1 ⟨rfl,rfl⟩) | (with_reducible refine (H2.out _).mono ?_;rintro e1 w1 ⟨rfl,rfl⟩))
   go_ret
   exact ⟨rfl,bel2 w _ _⟩
 ·rw [if_pos e1]
  have e1':(z1 != 0)=true:=by simpa using e1
  clear e1 H2
  as_aux_lemma =>
   go_enter Tryz.func123,Tryz.ntmps123
   go_wp2_with (go_at_call 121;refine (H1.out _).mono ?_;rintro e1 w1 ⟨rfl,rfl⟩)
   go_ret
   exact ⟨rfl,bel2 w _ _⟩
structure KD (w:World) (b o b' o':Nat) (A B:List Lb) (W:World):Prop where
 r1:RowL W b o A
 r2:RowL W b' o' B
 bl:Below w.heap.size w W
theorem KD.below {w W W1:World} {b o b' o':Nat} {A B:List Lb} (h:KD w b o b' o' A B W) (hb:Below W.heap.size W W1):KD w b o b' o' A B W1:=⟨h.r1.below hb,h.r2.below hb,h.bl.trans (hb.mono h.bl.size)⟩
theorem cmpf_any (ao:Option Addr) (b o cap:Nat) (A:List Lb) (hao:A≠[]→ao=some ⟨b,o,none⟩) (ao':Option Addr) (b' o' cap':Nat) (B:List Lb) (hao':B≠[]→ao'=some ⟨b',o',none⟩) (hl:A.length≤9223372036854775807) (hl':B.length≤9223372036854775807) (w:World) (hA:RowL w b o A) (hC:RowL w b' o' B) :
  Calls Tryz.prog 122 #[.slice ao A.length cap,.slice ao' B.length cap',.func (.func 123) #[] #[]] w fun e w'=>e=.returned (.int .i64 (ordL A B))∧Below w.heap.size w w':=by
 have HC:Hid (∀ (x1 x2 y1 y2:List UInt8) (W:World),Calls Tryz.prog 123 #[.agg #[.string ⟨x1.toArray⟩,.string ⟨x2.toArray⟩],.agg #[.string ⟨y1.toArray⟩,.string ⟨y2.toArray⟩]] W fun r w'=>r=.returned (.int .i64 (ordB (x1,x2) (y1,y2)))∧Below W.heap.size W w'):=fun x1 x2 y1 y2 W=>cmpl_any x1 x2 y1 y2 W
 obtain ⟨R,hR⟩:∃ R,R=ordL A B:=⟨_,rfl⟩
 rw [← hR]
 have HR0:Hid (R=ordL (A.drop 0) (B.drop 0)):=hR
 have HK0:Hid (KD w b o b' o' A B w):=⟨hA,hC,Below.refl _ _⟩
 clear hR hA hC
 go_enter Tryz.func122,Tryz.ntmps122
 go_wp2_with fail
 go_loopw [13] (fun a W=>∃ i:Nat,i≤A.length∧i≤B.length∧a=.int .i64 (i:Int)∧Hid (R=ordL (A.drop i) (B.drop i))∧Hid (KD w b o b' o' A B W)) (fun a _=>A.length - (intOf a).toNat)
 case atStart=>exact ⟨0,by omega,by omega,rfl,HR0,HK0⟩
 case round =>
  clear HK0 HR0
  obtain ⟨i,hi,hj,rfl,HR,HK⟩:=hrel
  by_cases hlt:i < A.length
  ·have hlt':(i:Int) < (A.length:Int):=by omega
   obtain rfl:=hao (by intro k;rw [k] at hlt;simp at hlt)
   obtain ⟨q1,q2⟩:=HK.out.r1 i hlt
   have hS:=HR.out
   rw [List.drop_eq_getElem_cons hlt] at hS
   clear HR
   by_cases hlb:i < B.length
   ·have hlb':¬ (B.length:Int)≤(i:Int):=by omega
    have hlb2:(i:Int) < (B.length:Int):=by omega
    obtain rfl:=hao' (by intro k;rw [k] at hlb;simp at hlb)
    rw [List.drop_eq_getElem_cons hlb,ordL_cons] at hS
    obtain ⟨p1,p2⟩:=HK.out.r2 i hlb
    have HC1:Hid _:=HC.out A[i].1 A[i].2 B[i].1 B[i].2
    have HKn:Hid (∀ t,KD w b o b' o' A B (wr.alloc (.cells #[.string ⟨A[i].1.toArray⟩,.string ⟨A[i].2.toArray⟩] t))):=fun t=>HK.out.below (bel1 wr _)
    have n1:=((HKn.out 152).r2 i hlb).1
    have n2:=((HKn.out 152).r2 i hlb).2
    have HKm:Hid (∀ t t',KD w b o b' o' A B ((wr.alloc (.cells #[.string ⟨A[i].1.toArray⟩,.string ⟨A[i].2.toArray⟩] t)).alloc (.cells #[.string ⟨B[i].1.toArray⟩,.string ⟨B[i].2.toArray⟩] t'))):=fun t t'=>(HK.out.below (bel1 wr _)).below (bel1 _ _)
    have hS':R=if ordB A[i] B[i]≠0 then ordB A[i] B[i] else ordL (A.drop (i+1)) (B.drop (i+1)):=hS
    have HC2:Hid (∀ (W:World),Calls Tryz.prog 123 #[.agg #[.string ⟨A[i].1.toArray⟩,.string ⟨A[i].2.toArray⟩],.agg #[.string ⟨B[i].1.toArray⟩,.string ⟨B[i].2.toArray⟩]] W fun r w'=>r=.returned (.int .i64 (ordB A[i] B[i]))∧Below W.heap.size W w'):=HC1.out
    clear hS HC HC1 HKn
    generalize ordB A[i] B[i]=bz at *
    generalize A[i].1=x1 at *
    generalize A[i].2=x2 at *
    generalize B[i].1=y1 at *
    generalize B[i].2=y2 at *
    by_cases e2:bz=0
    ·subst e2
     rw [if_neg (by decide)] at hS'
     have HF:Hid _:=hS'
     clear hS' HK
     as_aux_lemma =>
      go_wp2_with fail
      refine (HC2.out _).mono ?_
      rintro e w1 ⟨rfl,hb⟩
      have HK5:Hid _:=(HKm.out _ _).below hb
      clear HC2 HKm hb n1 n2
      go_wp2_with fail
      exact ⟨⟨i+1,by omega,by omega,by go_num,HF,HK5⟩,by simp [intOf];omega⟩
    ·have e2':(bz != 0)=true:=by simpa using e2
     rw [if_pos e2] at hS'
     have HF:Hid _:=hS'
     clear hS' e2 HK
     as_aux_lemma =>
      go_wp2_with fail
      refine (HC2.out _).mono ?_
      rintro e w1 ⟨rfl,hb⟩
      have hbl:=((HKm.out _ _).below hb).bl
      clear HC2 HKm hb n1 n2
      go_wp2_with fail
      go_ret
      exact ⟨retI HF.out.symm,hbl⟩
   ·have hlb':(B.length:Int)≤(i:Int):=by omega
    have hBn:B.drop i=[]:=List.drop_eq_nil_of_le (by omega)
    rw [hBn,ordL] at hS
    have HF:Hid _:=hS
    have HB1:Hid (∀ o,Below w.heap.size w (wr.alloc o)):=fun o=>HK.out.bl.trans ((bel1 wr o).mono HK.out.bl.size)
    clear hS HC HK
    as_aux_lemma =>
     go_wp2_with fail
     go_ret
     exact ⟨retI HF.out.symm,HB1.out _⟩
  ·have hlt':¬ (i:Int) < (A.length:Int):=by omega
   have hS:=HR.out
   rw [List.drop_eq_nil_of_le (by omega)] at hS
   have hbl:=HK.out.bl
   clear HR HK HC
   by_cases z:A.length < B.length
   ·have z':(A.length:Int) < (B.length:Int):=by omega
    have HF:Hid (R=-1):=by
     show R=-1
     rw [hS,List.drop_eq_getElem_cons (show i < B.length by omega),ordL]
    clear hS
    as_aux_lemma =>
     go_wp2_with fail
     go_ret
     exact ⟨retI HF.out.symm,hbl⟩
   ·have z':¬ (A.length:Int) < (B.length:Int):=by omega
    have HF:Hid (R=0):=by
     show R=0
     rw [hS,List.drop_eq_nil_of_le (by omega),ordL]
    clear hS
    as_aux_lemma =>
     go_wp2_with fail
     go_ret
     exact ⟨retI HF.out.symm,hbl⟩
theorem ccompare_any (d e:Ds) (v u:Value) (w:World) (hd:DsC w d v) (he:DsC w e u) :
  Calls Tryz.prog 92 #[v,u] w fun r w'=>r=.returned (.int .i64 (ordD d e))∧Below w.heap.size w w':=by
 obtain ⟨ao,b,o,cap,rfl,h1,h2,h3,h4⟩:=hd
 obtain ⟨ao',b',o',cap',rfl,k1,k2,k3,k4⟩:=he
 obtain ⟨kd,n,h,A⟩:=d
 obtain ⟨kd',n',h',B⟩:=e
 simp only at *
 have H1:Hid _:=fun W=>cmp_any n n' W
 have H2:Hid (∀ W,RowL W b o A→RowL W b' o' B→Calls Tryz.prog 122 #[.slice ao A.length cap,.slice ao' B.length cap',.func (.func 123) #[] #[]] W fun e w'=>e=.returned (.int .i64 (ordL A B))∧Below W.heap.size W w'):=fun W g1 g2=>cmpf_any ao b o cap A h1 ao' b' o' cap' B k1 (by omega) (by omega) W g1 g2
 have HA:Hid (RowL w b o A):=h4
 have HB:Hid (RowL w b' o' B):=k4
 unfold ordD
 simp only
 generalize ordE n n'=z1 at *
 generalize ordL A B=z2 at *
 clear h1 h2 h3 h4 k1 k2 k3 k4
 by_cases e1:z1=0
 ·subst e1
  rw [if_neg (by decide)]
  as_aux_lemma =>
   go_enter Tryz.func92,Tryz.ntmps92
   go_wp2_with (go_at_call 121;refine (H1.out _).mono ?_;rintro e1 w1 ⟨rfl,rfl⟩)
   refine (H2.out _ (RowL.below HA.out (bel2 w _ _)) (RowL.below HB.out (bel2 w _ _))).mono ?_
   rintro e1 w1 ⟨rfl,hb⟩
   have hb0:Below w.heap.size w w1:=(bel2 w _ _).trans (hb.mono (by simp;omega))
   go_wp2_with fail
   go_ret
   exact ⟨rfl,hb0⟩
 ·rw [if_pos e1]
  have e1':(z1 != 0)=true:=by simpa using e1
  clear e1 H2 HA HB
  as_aux_lemma =>
   go_enter Tryz.func92,Tryz.ntmps92
   go_wp2_with (go_at_call 121;refine (H1.out _).mono ?_;rintro e1 w1 ⟨rfl,rfl⟩)
   go_ret
   exact ⟨rfl,bel2 w _ _⟩
end Go.Proofs.YtlgkfeeclgcgbaaGreatDoor.La
/- THE CODE'S escape, Help. Own work of the verifier. -/
namespace Go.Proofs.YtlgkfeeclgcgbaaGreatDoor.La
open Go.RowKit
structure BS (B k:Nat) (w0:World) (l:List UInt8) (W:World):Prop where
 ib:Lib.IsBuilderF 352 5 B k (Lib.byteCells l) W
 bl:Below B w0 W
 ok:Lib.OthersKept 5 (some k) w0 W
 sz:B≤W.heap.size
def HidC (P:Program) (f:FuncId) (args:Array Value) (w:World) (Q:Ending→World→Prop):Prop:=Calls P f args w Q
theorem HidC.out {P:Program} {f:FuncId} {args:Array Value} {w:World} {Q:Ending→World→Prop} (h:HidC P f args w Q):Calls P f args w Q:=h
theorem wb_any {B k:Nat} {w0 w:World} {l:List UInt8} (b:UInt8) (h:BS B k w0 l w) (hl:l.length+1≤140737488355328) :
  Calls Tryz.prog 252 #[.pointer (some ⟨k,0,none⟩),.int .u8 (b.toNat:Int)] w fun e w'=>e=.returned .nilIface∧BS B k w0 (l++[b]) w':=by
 refine (Tryz.wbyte B k (Lib.byteCells l) (b.toNat:Int) w h.ib (by rw [Lib.byteCells_length];exact hl) h.sz).mono ?_
 rintro e w' ⟨rfl,h1,h2,h3⟩
 exact ⟨rfl,by rw [Lib.byteCells_append];exact Or.inr h1,h.bl.trans h2,h.ok.trans h3,Nat.le_trans h.sz h2.size⟩
theorem bstr_any {B k:Nat} {w0 w:World} {l:List UInt8} (h:BS B k w0 l w) :
  Calls Tryz.prog 251 #[.pointer (some ⟨k,0,none⟩)] w fun e w'=>e=.returned (.string ⟨l.toArray⟩)∧BS B k w0 l w':=by
 refine (Tryz.Builder_String_any_k B k l w h.ib h.sz).mono ?_
 rintro e w' ⟨rfl,h1,h2,h3⟩
 exact ⟨rfl,h1,h.bl.trans h2,h.ok.trans h3,Nat.le_trans h.sz h2.size⟩
theorem BS.new (w:World):BS w.heap.size w.heap.size w [] (w.alloc (.cells #[.pointer none,.slice none 0 0] 352)) :=
 ⟨Lib.IsBuilderF.of (Lib.fresh_isBuilder _ _ w),bel1 w _,(Lib.OthersKept.refl _ _ _).alloc _,by simp⟩
def spc (q:Bool):List UInt8:=if q then [92,34] else [92]
theorem idx_spc (q:Bool) (b:UInt8):(0:Int)≤Lib.indexByte (spc q) b ↔ (b.toNat=92∨q=true∧b.toNat=34):=by
 have n1:∀ (x y:UInt8),x=y ↔ x.toNat=y.toNat:=fun x y=>⟨fun e=>by rw [e],fun e=>UInt8.toNat_inj.1 e⟩
 have e1:(92:UInt8)=b ↔ b.toNat=92:=by rw [n1];exact eq_comm
 have e2:(34:UInt8)=b ↔ b.toNat=34:=by rw [n1];exact eq_comm
 cases q
 ·show 0≤Lib.indexByte [92] b ↔ _
  simp only [Lib.indexByte,beq_iff_eq,e1]
  split <;> rename_i h <;> simp [h]
 ·show 0≤Lib.indexByte [92,34] b ↔ _
  simp only [Lib.indexByte,beq_iff_eq,e1,e2]
  split <;> rename_i h
  ·simp [h]
  ·split <;> rename_i h2
   ·simp only [h2];decide
   ·simp [h,h2]
theorem idx_any (q:Bool) (b:UInt8) (w:World) :
  Calls Tryz.prog 124 #[.string ⟨(spc q).toArray⟩,.int .u8 (b.toNat:Int)] w fun e w'=>e=.returned (.int .i64 (Lib.indexByte (spc q) b))∧w'=w:=by
 have h:=Tryz.strings_IndexByte ⟨(spc q).toArray⟩ (b.toNat:Int) w
 have hb:((b.toNat:Int).toNat).toUInt8=b:=by simp
 rw [hb] at h
 exact h
end Go.Proofs.YtlgkfeeclgcgbaaGreatDoor.La
/- Print, the document's. Own work of the verifier. -/
namespace Go.Proofs.YtlgkfeeclgcgbaaGreatDoor.La
open Go.RowKit
def lbT (a:Lb):List UInt8:=a.1++[61,34]++escL true a.2++[34]
def prB:Bool→List Lb→List UInt8
 | _,[]=>[]
 | f,a::r=>(if f then 123 else 44)::(lbT a++prB false r)
end Go.Proofs.YtlgkfeeclgcgbaaGreatDoor.La
