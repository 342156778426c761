/- Check, the document's. Own work of the verifier. -/
import Derived.Test.YtifapjammoahgaaGreatDoorSAZ
import Derived.Test.YtifapjammoahgaaGreatDoorSAW
namespace Go.Proofs.YtifapjammoahgaaGreatDoor.La
open Go.RowKit
def chkL:List Lb→Option (List UInt8)→Int
  | [],_=>0
  | a::r,p=>if lnameB a.1=false then 9 else if txE a.2≠0 then txE a.2 else
    match p with
    | none=>chkL r (some a.1)
    | some q=>if bhE q a.1≠0 then bhE q a.1 else chkL r (some a.1)
def chkD (d:Ds):Int:=if d.kind < 1∨3 < d.kind then 7 else if nameB d.name=false then 9 else if txE d.help≠0 then txE d.help else if 16 < d.labels.length then 3 else chkL d.labels none
def prv (A:List Lb) (i:Nat):Option (List UInt8):=if i=0 then none else (A[i - 1]?).map (·.1)
theorem prv_succ (A:List Lb) (i:Nat) (h:i < A.length):prv A (i+1)=some A[i].1:=by
  unfold prv
  rw [if_neg (by omega),Nat.add_sub_cancel,List.getElem?_eq_getElem h]
  rfl
theorem chkL_drop (A:List Lb) (i:Nat) (p:Option (List UInt8)) (h:i < A.length):chkL (A.drop i) p=if lnameB A[i].1=false then 9 else if txE A[i].2≠0 then txE A[i].2 else
    match p with
    | none=>chkL (A.drop (i+1)) (some A[i].1)
    | some q=>if bhE q A[i].1≠0 then bhE q A[i].1 else chkL (A.drop (i+1)) (some A[i].1):=by
  rw [List.drop_eq_getElem_cons h]
  cases p <;> simp only [chkL]
def DsS (d:Ds):Prop:=d.name.length≤4611686018427387904∧d.help.length≤4611686018427387904∧∀ a ∈ d.labels,a.1.length≤4611686018427387904∧a.2.length≤4611686018427387904
theorem bel_drewN {B:Nat} {a w:World} (h:Below B a w) (n:Nat):Below B a (w.drewN n):=by
  induction n with
  | zero=>exact h
  | succ n ih=>exact ⟨ih.os,ih.tape,ih.output,ih.size,ih.block⟩
structure KH (w:World) (ao:Option Addr) (b o cap:Nat) (A:List Lb) (W:World):Prop where
  f:W.cell? ⟨w.heap.size,3,none⟩=some (.slice ao A.length cap)
  r:RowL W b o A
  bl:Below w.heap.size w W
theorem KH.below {w W W1:World} {ao:Option Addr} {b o cap:Nat} {A:List Lb} (h:KH w ao b o cap A W) (hb:Below W.heap.size W W1):KH w ao b o cap A W1 :=
  ⟨by rw [hb.cell (p:=⟨w.heap.size,3,none⟩) (lt_of_cell h.f)];exact h.f,h.r.below hb,h.bl.trans (hb.mono h.bl.size)⟩
theorem bel_drew {B:Nat} {a w:World} (h:Below B a w):Below B a w.drew:=⟨h.os,h.tape,h.output,h.size,h.block⟩
theorem sizeL (W:World):(sizeOf 74).run Tryz.prog W=.ok 2 W:=by simp [sizeOf];rfl
theorem index_lab (b o len cap j:Nat) (z:Int) (hz:z=(j:Int)) (hj:j < len) (W:World) :
    (Instr.indexAt 24 (.slice (some ⟨b,o,none⟩) len cap) (.int .i64 z)).run Tryz.prog W=.ok (.pointer (some ⟨b,o+j*2,none⟩)) W:=by
  subst hz
  have he:Tryz.prog.elem 24=74:=by simp [Program.elem,Tryz.underlying24]
  rw [run_indexAt_slice W 24 ⟨b,o,none⟩ len cap .i64 (j:Int) (by rw [he];exact Tryz.underlying24),if_pos (by omega),he,sizeL]
  simp [Addr.add]
end Go.Proofs.YtifapjammoahgaaGreatDoor.La
/- THE CODE'S isRight, checkText, checkPlace, checkLabel. Own work of the verifier. -/
set_option maxRecDepth 100000
set_option maxHeartbeats 4000000
namespace Go.Proofs.YtifapjammoahgaaGreatDoor.La
open Go.RowKit
theorem below_iter (w:World) (s:ByteArray) (p:Nat):Below w.heap.size w (w.iter s p):=(Below.refl _ _).alloc (Nat.le_refl _) _
theorem right_any (l:List UInt8) (hl:l.length≤4611686018427387904) (w:World) :
    Calls Tryz.prog 125 #[.string ⟨l.toArray⟩] w fun r w'=>r=.returned (.bool (utfB l))∧Below w.heap.size w w':=by
  obtain ⟨R,hR⟩:∃ R,R=utfB l:=⟨_,rfl⟩
  rw [← hR]
  have HR0:Hid (R=utfB (l.drop 0)):=by show R=_;rw [hR,List.drop_zero]
  clear hR
  go_enter Tryz.func125,Tryz.ntmps125
  go_wp2_with fail
  go_loopw [] (fun W=>∃ pos:Nat,pos≤l.length∧Hid (R=utfB (l.drop pos))∧W=w.iter ⟨l.toArray⟩ pos) (fun W=>l.length - W.iterPos w.heap.size)
  case atStart=>exact ⟨0,by omega,HR0,rfl⟩
  case round =>
    obtain ⟨pos,hpos,HR,hw⟩:=hrel
    subst wr
    clear HR0
    have hsz:(ByteArray.mk l.toArray).size=l.length:=by show l.toArray.size=_;simp
    by_cases hlt:pos < l.length
    · have hnx:∀ ty,(Instr.next (.pointer (some ⟨w.heap.size,0,none⟩)) true ty).run Tryz.prog (w.iter ⟨l.toArray⟩ pos)=_:=fun ty=>run_next_any w ⟨l.toArray⟩ pos ty (by rw [hsz];exact hlt)
      obtain ⟨r,n,hd⟩:∃ r n,Utf8.decode ⟨l.toArray⟩ pos=(r,n):=⟨_,_,rfl⟩
      rw [hd] at hnx
      simp only at hnx
      obtain ⟨h1,h2,h3,h4⟩:=utf_step l pos r n hlt hd
      have hdr:=drop_bytes l pos
      have HP:Hid _:=fun W=>pre_any (l.drop pos) [239,191,189] W
      have hp:=pre_three l pos hlt
      rcases h4 with ⟨hb,hu⟩ | ⟨hb,hu⟩
      · have hr:((r:Int) == 65533)=true:=by rw [beq_iff_eq];have:=hb.1;omega
        rw [decide_eq_false hb.2] at hp
        rw [hp] at HP
        have HF:Hid (R=false):=HR.out.trans hu
        clear HR hb hu hp hd hsz
        as_aux_lemma =>
          go_wp2_with (go_at_call 70;refine (HP.out _).mono ?_;rintro e1 w1 ⟨rfl,rfl⟩)
          go_ret
          exact ⟨congrArg (fun z:Bool=>Ending.returned (Value.bool z)) HF.out.symm,below_iter _ _ _⟩
      · have HR':Hid (R=utfB (l.drop (pos+n))):=HR.out.trans hu
        by_cases hr0:r=65533
        · have hr:((r:Int) == 65533)=true:=by rw [beq_iff_eq];omega
          rw [decide_eq_true (Classical.byContradiction (fun k=>hb ⟨hr0,k⟩))] at hp
          rw [hp] at HP
          clear HR hb hu hp hd hsz hr0
          as_aux_lemma =>
            go_wp2_with (go_at_call 70;refine (HP.out _).mono ?_;rintro e1 w1 ⟨rfl,rfl⟩)
            exact ⟨⟨pos+n,by omega,HR',rfl⟩,by rw [World.iterPos_iter,World.iterPos_iter];omega⟩
        · have hr:((r:Int) == 65533)=false:=by rw [beq_eq_false_iff_ne];omega
          clear HR hb hu hp hd hsz hr0 HP
          as_aux_lemma =>
            go_wp2_with fail
            exact ⟨⟨pos+n,by omega,HR',rfl⟩,by rw [World.iterPos_iter,World.iterPos_iter];omega⟩
    · have hnx:∀ ty,(Instr.next (.pointer (some ⟨w.heap.size,0,none⟩)) true ty).run Tryz.prog (w.iter ⟨l.toArray⟩ pos)=_:=fun ty=>run_next_end w ⟨l.toArray⟩ pos ty (by rw [hsz];exact hlt)
      have HF:Hid (R=true):=by
        have:=HR.out
        rw [List.drop_eq_nil_of_le (by omega),utfB] at this
        exact this
      clear HR hsz
      as_aux_lemma =>
        go_wp2_with fail
        go_ret
        exact ⟨congrArg (fun z:Bool=>Ending.returned (Value.bool z)) HF.out.symm,below_iter _ _ _⟩
theorem ctext_any (l:List UInt8) (hl:l.length≤4611686018427387904) (w:World) :
    Calls Tryz.prog 90 #[.string ⟨l.toArray⟩] w fun r w'=>r=.returned (.int .i64 (txE l))∧Below w.heap.size w w':=by
  have HU:Hid _:=fun W=>right_any l hl W
  unfold txE
  by_cases h:1024 < l.length
  · have h':¬ (l.length:Int)≤1024:=by omega
    have h'':(1024:Int) < (l.length:Int):=by omega
    rw [if_pos h]
    as_aux_lemma =>
      go_enter Tryz.func90,Tryz.ntmps90
      go_wp2_with fail
      go_ret
      exact ⟨rfl,Below.refl _ _⟩
  · have h':(l.length:Int)≤1024:=by omega
    have h'':¬ (1024:Int) < (l.length:Int):=by omega
    rw [if_neg h]
    cases hU:utfB l
    · rw [hU] at HU
      rw [if_neg (by decide)]
      as_aux_lemma =>
        go_enter Tryz.func90,Tryz.ntmps90
        go_wp2_with (go_at_call 125;refine (HU.out _).mono ?_;rintro e1 w1 ⟨rfl,hb⟩)
        go_ret
        exact ⟨rfl,hb⟩
    · rw [hU] at HU
      rw [if_pos rfl]
      as_aux_lemma =>
        go_enter Tryz.func90,Tryz.ntmps90
        go_wp2_with (go_at_call 125;refine (HU.out _).mono ?_;rintro e1 w1 ⟨rfl,hb⟩)
        go_ret
        exact ⟨rfl,hb⟩
def plE (A:List Lb) (n:List UInt8):Int:=if A.length=0 then 0 else bhE (A.getD (A.length - 1) ([],[])).1 n
theorem place_any (ao:Option Addr) (b o cap:Nat) (A:List Lb) (hao:A≠[]→ao=some ⟨b,o,none⟩) (hl:A.length≤9223372036854775807) (n:List UInt8) (w:World) (hA:RowL w b o A) :
    Calls Tryz.prog 127 #[.slice ao A.length cap,.string ⟨n.toArray⟩] w fun r w'=>r=.returned (.int .i64 (plE A n))∧w'=w:=by
  unfold plE
  by_cases h0:A.length=0
  · have e0:((A.length:Int) == 0)=true:=by rw [beq_iff_eq];omega
    rw [if_pos h0]
    clear h0
    as_aux_lemma =>
      go_enter Tryz.func127,Tryz.ntmps127
      go_wp2_with fail
      go_ret
      exact ⟨rfl,rfl⟩
  · have e0:((A.length:Int) == 0)=false:=by rw [beq_eq_false_iff_ne];omega
    rw [if_neg h0]
    have hne:A≠[]:=fun e=>h0 (by rw [e];rfl)
    obtain rfl:=hao hne
    obtain ⟨m,hm⟩:∃ m,m+1=A.length:=⟨A.length - 1,by omega⟩
    have hml:m < A.length:=by omega
    have hw:IntKind.i64.wrap ((A.length:Int) - 1)=(m:Int):=by
      rw [IntKind.wrap_i64];omega
    obtain ⟨g1,g2⟩:=hA m hml
    have hg:A.getD (A.length - 1) ([],[])=A[m]:=by
      rw [show A.length - 1=m from by omega,List.getD_eq_getElem?_getD,List.getElem?_eq_getElem hml];rfl
    rw [hg]
    clear hg
    generalize A[m].1=q at *
    generalize A[m].2=q2 at *
    have hix:=index_lab b o A.length cap m (m:Int) rfl hml
    unfold bhE
    by_cases hq:q=n
    · subst hq
      rw [if_pos rfl]
      clear hne h0 hm
      as_aux_lemma =>
        go_enter Tryz.func127,Tryz.ntmps127
        go_wp2_with fail
        go_ret
        exact ⟨rfl,rfl⟩
    · have hq':(n == q)=false:=by rw [beq_eq_false_iff_ne];exact fun e=>hq e.symm
      rw [if_neg hq]
      have hls:=less_list n q
      cases hb:bltB n q
      · rw [hb] at hls
        rw [if_neg (by decide)]
        clear hne h0 hm hq hb
        as_aux_lemma =>
          go_enter Tryz.func127,Tryz.ntmps127
          go_wp2_with fail
          go_ret
          exact ⟨rfl,rfl⟩
      · rw [hb] at hls
        rw [if_pos rfl]
        clear hne h0 hm hq hb
        as_aux_lemma =>
          go_enter Tryz.func127,Tryz.ntmps127
          go_wp2_with fail
          go_ret
          exact ⟨rfl,rfl⟩
end Go.Proofs.YtifapjammoahgaaGreatDoor.La
/- THE CODE'S checkLabel AND Check. Own work of the verifier. -/
set_option maxRecDepth 100000
set_option maxHeartbeats 4000000
namespace Go.Proofs.YtifapjammoahgaaGreatDoor.La
open Go.RowKit
def lbE (A:List Lb) (a:Lb):Int:=if lnameB a.1=false then 9 else if txE a.2≠0 then txE a.2 else plE A a.1
theorem clabel_any (ao:Option Addr) (b o cap:Nat) (A:List Lb) (hao:A≠[]→ao=some ⟨b,o,none⟩) (hl:A.length≤9223372036854775807) (x y:List UInt8) (hx:x.length≤4611686018427387904) (hy:y.length≤4611686018427387904) (w:World) (hA:RowL w b o A) :
    Calls Tryz.prog 91 #[.slice ao A.length cap,.agg #[.string ⟨x.toArray⟩,.string ⟨y.toArray⟩]] w fun r w'=>r=.returned (.int .i64 (lbE A (x,y)))∧Below w.heap.size w w':=by
  have HL:Hid _:=fun W=>clname_any x hx W
  have HT:Hid _:=fun W=>ctext_any y hy W
  have HP:Hid (∀ W,RowL W b o A→Calls Tryz.prog 127 #[.slice ao A.length cap,.string ⟨x.toArray⟩] W fun r w'=>r=.returned (.int .i64 (plE A x))∧w'=W):=fun W hW=>place_any ao b o cap A hao hl x W hW
  have HA:Hid (RowL w b o A):=hA
  unfold lbE
  simp only
  generalize lnameB x=lb at *
  generalize txE y=tz at *
  generalize plE A x=pz at *
  clear hA hao
  cases lb
  · rw [if_pos rfl]
    clear HT HP HA
    as_aux_lemma =>
      go_enter Tryz.func91,Tryz.ntmps91
      go_wp2_with (go_at_call 126;refine (HL.out _).mono ?_;rintro e1 w1 ⟨rfl,rfl⟩)
      go_ret
      exact ⟨rfl,bel1 w _⟩
  · rw [if_neg (by decide)]
    by_cases e1:tz=0
    · subst e1
      rw [if_neg (by decide)]
      as_aux_lemma =>
        go_enter Tryz.func91,Tryz.ntmps91
        go_wp2_with (go_at_call 126;refine (HL.out _).mono ?_;rintro e1 w1 ⟨rfl,rfl⟩)
        refine (HT.out _).mono ?_
        rintro e1 w1 ⟨rfl,hb⟩
        have hb0:Below w.heap.size w w1:=(bel1 w _).trans (hb.mono (by simp))
        have c0:=hb.cell (p:=⟨w.heap.size,0,none⟩) (by simp)
        have r1:RowL w1 b o A:=RowL.below HA.out hb0
        have HP1:Hid (Calls Tryz.prog 127 #[.slice ao A.length cap,.string ⟨x.toArray⟩] w1 fun r w'=>r=.returned (.int .i64 pz)∧w'=w1):=HP.out w1 r1
        clear HL HT HP HA hb r1
        simp [go_sem] at c0
        go_wp2_with (go_at_call 127;refine (HP1.out).mono ?_;rintro e2 w2 ⟨rfl,rfl⟩)
        go_ret
        exact ⟨rfl,hb0⟩
    · rw [if_pos e1]
      have e1':(tz != 0)=true:=by simpa using e1
      clear HP HA e1
      as_aux_lemma =>
        go_enter Tryz.func91,Tryz.ntmps91
        go_wp2_with (go_at_call 126;refine (HL.out _).mono ?_;rintro e1 w1 ⟨rfl,rfl⟩)
        refine (HT.out _).mono ?_
        rintro e1 w1 ⟨rfl,hb⟩
        have hb0:Below w.heap.size w w1:=(bel1 w _).trans (hb.mono (by simp))
        go_wp2_with fail
        go_ret
        exact ⟨rfl,hb0⟩
def DsC (W:World) (d:Ds) (v:Value):Prop:=∃ (ao:Option Addr) (b o cap:Nat),v=.agg #[.int .i64 d.kind,.string ⟨d.name.toArray⟩,.string ⟨d.help.toArray⟩,.slice ao d.labels.length cap]∧(d.labels≠[]→ao=some ⟨b,o,none⟩)∧d.labels.length≤cap∧cap≤9223372036854775807∧RowL W b o d.labels
theorem rowL_take {W:World} {b o:Nat} {A:List Lb} (h:RowL W b o A) (i:Nat):RowL W b o (A.take i):=fun j hj=>by
  rw [List.length_take] at hj
  have:=h j (by omega)
  rw [List.getElem_take]
  exact this
theorem chk_step (A:List Lb) (i:Nat) (h:i < A.length):chkL (A.drop i) (prv A i)=if lbE (A.take i) A[i]≠0 then lbE (A.take i) A[i] else chkL (A.drop (i+1)) (prv A (i+1)):=by
  rw [chkL_drop A i _ h,prv_succ A i h]
  unfold lbE plE
  have hlen:(A.take i).length=i:=by rw [List.length_take];omega
  rw [hlen]
  cases lnameB A[i].1 with
  | false=>simp
  | true =>
    simp only [Bool.true_eq_false,if_false]
    by_cases e1:txE A[i].2=0
    · rw [e1]
      simp only [ne_eq,not_true_eq_false,if_false]
      by_cases e2:i=0
      · rw [if_pos e2]
        have:prv A i=none:=by unfold prv;rw [if_pos e2]
        rw [this]
        simp
      · rw [if_neg e2]
        have hp:prv A i=some (A[i - 1]'(by omega)).1:=by unfold prv;rw [if_neg e2,List.getElem?_eq_getElem (by omega)];rfl
        have hg:(A.take i).getD (i - 1) ([],[])=A[i - 1]'(by omega):=by
          rw [List.getD_eq_getElem?_getD,List.getElem?_take,if_pos (by omega),List.getElem?_eq_getElem (by omega)];rfl
        rw [hp,hg]
    · simp only [ne_eq,e1,not_false_eq_true,if_true]
theorem keepC {w W W1:World} {ao:Option Addr} {b o cap i:Nat} {A:List Lb} {x y:Value} (hb:Below W.heap.size W W1)
    (h:W.cell? ⟨w.heap.size,3,none⟩=some (.slice ao A.length cap)∧W.cell? ⟨b,o+i*2,none⟩=some x∧W.cell? ⟨b,o+i*2+1,none⟩=some y∧KH w ao b o cap A W) :
    W1.cell? ⟨w.heap.size,3,none⟩=some (.slice ao A.length cap)∧W1.cell? ⟨b,o+i*2,none⟩=some x∧W1.cell? ⟨b,o+i*2+1,none⟩=some y∧KH w ao b o cap A W1:=by
  obtain ⟨h1,h2,h3,h4⟩:=h
  exact ⟨(hb.cell (lt_of_cell h1)).trans h1,(hb.cell (lt_of_cell h2)).trans h2,(hb.cell (lt_of_cell h3)).trans h3,h4.below hb⟩
theorem ccheck_any (d:Ds) (v:Value) (w:World) (hd:DsC w d v) (hs:DsS d) :
    Calls Tryz.prog 69 #[v] w fun r w'=>r=.returned (.int .i64 (chkD d))∧Below w.heap.size w w':=by
  obtain ⟨ao,b,o,cap,rfl,h1,hc1,hc2,h3⟩:=hd
  obtain ⟨kd,n,h,A⟩:=d
  simp only at hc1
  obtain ⟨s1,s2,s3⟩:=hs
  have HN:Hid _:=fun W=>cname_any n s1 W
  have HH:Hid _:=fun W=>ctext_any h s2 W
  have HLb:Hid (∀ (i:Nat) (hi:i < A.length) (W:World),RowL W b o A→Calls Tryz.prog 91 #[.slice (some ⟨b,o,none⟩) i cap,.agg #[.string ⟨A[i].1.toArray⟩,.string ⟨A[i].2.toArray⟩]] W fun r w'=>r=.returned (.int .i64 (lbE (A.take i) A[i]))∧Below W.heap.size W w'):=fun i hi W hW=>by
    have hlen:(A.take i).length=i:=by rw [List.length_take];omega
    have:=clabel_any (some ⟨b,o,none⟩) b o cap (A.take i) (fun _=>rfl) (by omega) A[i].1 A[i].2 (s3 _ (List.getElem_mem hi)).1 (s3 _ (List.getElem_mem hi)).2 W (rowL_take hW i)
    rw [hlen] at this
    exact this
  have HK0:Hid (∀ t,KH w ao b o cap A (w.alloc (.cells #[.int .i64 kd,.string ⟨n.toArray⟩,.string ⟨h.toArray⟩,.slice ao A.length cap] t))):=fun t=>⟨by simp [go_sem],h3.below (bel1 w _),bel1 w _⟩
  have hD:chkD ⟨kd,n,h,A⟩=if kd < 1∨3 < kd then 7 else if nameB n=false then 9 else if txE h≠0 then txE h else if 16 < A.length then 3 else chkL A none:=rfl
  rw [hD]
  clear hD h3 s1 s2 s3
  by_cases g1:kd < 1∨3 < kd
  · rw [if_pos g1]
    have k1:(kd != 1)=true:=by simp;omega
    have k2:(kd != 2)=true:=by simp;omega
    have k3:(kd != 3)=true:=by simp;omega
    clear HN HH HLb HK0
    as_aux_lemma =>
      go_enter Tryz.func69,Tryz.ntmps69
      go_wp2_with fail
      go_ret
      exact ⟨rfl,bel1 w _⟩
  rw [if_neg g1]
  have HG:Hid (kd=1∨kd=2∨kd=3):=by show _∨_;omega
  clear g1
  generalize nameB n=nb at *
  obtain ⟨z,hz⟩:∃ z,z=txE h:=⟨_,rfl⟩
  rw [← hz] at HH ⊢
  obtain ⟨R,hR⟩:∃ R,R=chkL A none:=⟨_,rfl⟩
  rw [← hR]
  have HR0:Hid (R=chkL (A.drop 0) (prv A 0)):=hR
  obtain ⟨F,hF⟩:∃ F,F=if nb=false then 9 else if z≠0 then z else if 16 < A.length then 3 else R:=⟨_,rfl⟩
  rw [← hF]
  clear hz hR
  have HFF:Hid (F=if nb=false then 9 else if z≠0 then z else if 16 < A.length then 3 else R):=hF
  clear hF
  go_enter Tryz.func69,Tryz.ntmps69
  go_upto_region 1 with fail
  go_cut [18] (fun v W=>v=.bool false∧W=w.alloc (.cells #[.int .i64 kd,.string ⟨n.toArray⟩,.string ⟨h.toArray⟩,.slice ao A.length cap] 131))
  case first =>
    clear HN HH HLb HK0 HR0
    rcases HG.out with e | e | e <;> subst e <;> as_aux_lemma =>
      go_wp2_with fail
      go_meet
      exact ⟨rfl,rfl⟩
  case rest =>
  obtain ⟨rfl,rfl⟩:=hcut
  clear HG
  have hF:=HFF.out
  clear HFF
  cases nb
  · rw [if_pos rfl] at hF
    have HF:Hid _:=hF
    clear HH HLb HK0 HR0 hF
    as_aux_lemma =>
      go_wp2_with (go_at_call 89;refine (HN.out _).mono ?_;rintro e1 w1 ⟨rfl,rfl⟩)
      go_ret
      exact ⟨retI HF.out.symm,bel1 w _⟩
  rw [if_neg (by decide)] at hF
  by_cases g3:z=0
  · subst g3
    rw [if_neg (by decide)] at hF
    have HFF:Hid _:=hF
    clear hF
    go_wp2_with (go_at_call 89;refine (HN.out _).mono ?_;rintro e1 w1 ⟨rfl,rfl⟩)
    refine (HH.out _).mono ?_
    rintro e1 w1 ⟨rfl,hb⟩
    have HK1:Hid (KH w ao b o cap A w1):=(HK0.out _).below hb
    have f1:=HK1.out.f
    clear HN HH HK0 hb
    by_cases g4:16 < A.length
    · have g4':(16:Int) < (A.length:Int):=by omega
      have hF:=HFF.out
      rw [if_pos g4] at hF
      have HF:Hid _:=hF
      have hbl:=HK1.out.bl
      clear HLb HR0 HK1 HFF hF
      as_aux_lemma =>
        go_wp2_with fail
        go_ret
        exact ⟨retI HF.out.symm,hbl⟩
    have g4':¬ (16:Int) < (A.length:Int):=by omega
    have HFR:Hid (F=R):=by
      have hF:=HFF.out
      rw [if_neg g4] at hF
      exact hF
    clear g4 HFF
    go_wp2_with fail
    go_loopw [36] (fun a W=>∃ i:Nat,i≤A.length∧a=.int .i64 (i:Int)∧Hid (R=chkL (A.drop i) (prv A i))∧Hid (KH w ao b o cap A W)) (fun a _=>A.length - (intOf a).toNat)
    case atStart=>exact ⟨0,by omega,rfl,HR0,HK1⟩
    case round =>
      clear HK1 HR0 f1
      obtain ⟨i,hi,rfl,HR,HK⟩:=hrel
      have f1:=HK.out.f
      by_cases hlt:i < A.length
      · have hlt':(i:Int) < (A.length:Int):=by omega
        obtain rfl:=h1 (by intro k;change A=[] at k;rw [k] at hlt;simp at hlt)
        obtain ⟨q1,q2⟩:=HK.out.r i hlt
        have hS:=HR.out
        rw [chk_step A i hlt] at hS
        have HL1:Hid _:=HLb.out i hlt
        generalize lbE (A.take i) A[i]=bz at *
        generalize A[i].1=x1 at *
        generalize A[i].2=x2 at *
        have hic:(i:Int)≤(cap:Int):=by omega
        clear HR HLb
        as_aux_lemma =>
        go_upto_region 13 with fail
        have hG0:wr.cell? ⟨w.heap.size,3,none⟩=some (.slice (some ⟨b,o,none⟩) A.length cap)∧wr.cell? ⟨b,o+i*2,none⟩=some (.string ⟨x1.toArray⟩)∧wr.cell? ⟨b,o+i*2+1,none⟩=some (.string ⟨x2.toArray⟩)∧KH w (some ⟨b,o,none⟩) b o cap A wr:=⟨f1,q1,q2,HK.out⟩
        go_cut [5] from 37 to 52 (fun v W=>v=.int .i64 bz∧Hid (KH w (some ⟨b,o,none⟩) b o cap A W))
        case first =>
          clear hS
          as_aux_lemma =>
            go_region_held3 (fun W=>W.cell? ⟨w.heap.size,3,none⟩=some (.slice (some ⟨b,o,none⟩) A.length cap)∧W.cell? ⟨b,o+i*2,none⟩=some (.string ⟨x1.toArray⟩)∧W.cell? ⟨b,o+i*2+1,none⟩=some (.string ⟨x2.toArray⟩)∧KH w (some ⟨b,o,none⟩) b o cap A W)
              (first | assumption | exact keepC (by assumption) (by assumption) | exact keepC (bel_drew (Below.refl _ _)) hG0 | exact keepC (bel_drewN (Below.refl _ _) _) hG0)
              (first | (go_at_call 91;with_reducible refine (HL1.out _ (KH.r (by first | assumption | exact (keepC (bel_drew (Below.refl _ _)) hG0).2.2.2 | exact (keepC (bel_drewN (Below.refl _ _) _) hG0).2.2.2))).mono ?_;rintro r w1 ⟨rfl,hb1⟩))
            rename_i hG1
            go_wp2_with fail
            go_meet
            exact ⟨rfl,hG1.2.2.2⟩
        case rest =>
        obtain ⟨rfl,HK5⟩:=hcut
        clear HL1 q1 q2 f1 HK hG0
        by_cases e2:bz=0
        · subst e2
          rw [if_neg (by decide)] at hS
          have HF:Hid (R=chkL (A.drop (i+1)) (prv A (i+1))):=hS
          clear hS
          as_aux_lemma =>
            go_wp2_with fail
            exact ⟨⟨i+1,by omega,by go_num,HF,HK5⟩,by simp [intOf];omega⟩
        · have e2':(bz != 0)=true:=by simpa using e2
          rw [if_pos e2] at hS
          have HF:Hid _:=hS
          have hbl:=HK5.out.bl
          clear hS e2 HK5
          as_aux_lemma =>
            go_wp2_with fail
            go_ret
            exact ⟨retI (HFR.out.trans HF.out).symm,hbl⟩
      · have hlt':¬ (i:Int) < (A.length:Int):=by omega
        have hS:=HR.out
        rw [List.drop_eq_nil_of_le (by omega),chkL] at hS
        have HF:Hid _:=hS
        have hbl:=HK.out.bl
        clear HR HK hS HLb
        as_aux_lemma =>
          go_wp2_with fail
          go_ret
          exact ⟨retI (HFR.out.trans HF.out).symm,hbl⟩
  · rw [if_pos g3] at hF
    have HF:Hid _:=hF
    have g3':(z != 0)=true:=by simpa using g3
    clear HLb HK0 HR0 g3 hF
    as_aux_lemma =>
      go_wp2_with (go_at_call 89;refine (HN.out _).mono ?_;rintro e1 w1 ⟨rfl,rfl⟩)
      refine (HH.out _).mono ?_
      rintro e1 w1 ⟨rfl,hb⟩
      have hb0:Below w.heap.size w w1:=(bel1 w _).trans (hb.mono (by simp))
      go_wp2_with fail
      go_ret
      exact ⟨retI HF.out.symm,hb0⟩
end Go.Proofs.YtifapjammoahgaaGreatDoor.La
/- THE CODE'S escape, Help. Own work of the verifier. -/
set_option maxRecDepth 100000
set_option maxHeartbeats 4000000
namespace Go.Proofs.YtifapjammoahgaaGreatDoor.La
open Go.RowKit
structure BS (B k:Nat) (w0:World) (l:List UInt8) (W:World):Prop where
  ib:Lib.IsBuilderF 53 5 B k (Lib.byteCells l) W
  bl:Below B w0 W
  ok:Lib.OthersKept 5 (some k) w0 W
  sz:B≤W.heap.size
def HidC (P:Program) (f:FuncId) (args:Array Value) (w:World) (Q:Ending→World→Prop):Prop:=Calls P f args w Q
theorem HidC.out {P:Program} {f:FuncId} {args:Array Value} {w:World} {Q:Ending→World→Prop} (h:HidC P f args w Q):Calls P f args w Q:=h
theorem wb_any {B k:Nat} {w0 w:World} {l:List UInt8} (b:UInt8) (h:BS B k w0 l w) (hl:l.length+1≤140737488355328) :
    Calls Tryz.prog 85 #[.pointer (some ⟨k,0,none⟩),.int .u8 (b.toNat:Int)] w fun e w'=>e=.returned .nilIface∧BS B k w0 (l++[b]) w':=by
  refine (Tryz.wbyte B k (Lib.byteCells l) (b.toNat:Int) w h.ib (by rw [Lib.byteCells_length];exact hl) h.sz).mono ?_
  rintro e w' ⟨rfl,h1,h2,h3⟩
  exact ⟨rfl,by rw [Lib.byteCells_append];exact Or.inr h1,h.bl.trans h2,h.ok.trans h3,Nat.le_trans h.sz h2.size⟩
theorem ws_any {B k:Nat} {w0 w:World} {l:List UInt8} (s:List UInt8) (h:BS B k w0 l w) (hl:l.length+s.length≤140737488355328) :
    Calls Tryz.prog 25 #[.pointer (some ⟨k,0,none⟩),.string ⟨s.toArray⟩] w fun e w'=>e=.returned (.tuple #[.int .i64 (s.length:Int),.nilIface])∧BS B k w0 (l++s) w':=by
  have hsz:(ByteArray.mk s.toArray).size=s.length:=by show s.toArray.size=_;simp
  have:=Tryz.wstring B k (Lib.byteCells l) ⟨s.toArray⟩ w h.ib (by rw [Lib.byteCells_length,hsz];exact hl) h.sz
  rw [hsz,Lib.strCells_eq] at this
  refine this.mono ?_
  rintro e w' ⟨rfl,h1,h2,h3⟩
  exact ⟨rfl,by rw [Lib.byteCells_append];exact Or.inr h1,h.bl.trans h2,h.ok.trans h3,Nat.le_trans h.sz h2.size⟩
theorem bstr_any {B k:Nat} {w0 w:World} {l:List UInt8} (h:BS B k w0 l w) :
    Calls Tryz.prog 17 #[.pointer (some ⟨k,0,none⟩)] w fun e w'=>e=.returned (.string ⟨l.toArray⟩)∧BS B k w0 l w':=by
  refine (Tryz.Builder_String_any_k B k l w h.ib h.sz).mono ?_
  rintro e w' ⟨rfl,h1,h2,h3⟩
  exact ⟨rfl,h1,h.bl.trans h2,h.ok.trans h3,Nat.le_trans h.sz h2.size⟩
theorem BS.new (w:World):BS w.heap.size w.heap.size w [] (w.alloc (.cells #[.pointer none,.slice none 0 0] 53)) :=
  ⟨Lib.IsBuilderF.of (Lib.fresh_isBuilder _ _ w),bel1 w _,(Lib.OthersKept.refl _ _ _).alloc _,by simp⟩
def spc (q:Bool):List UInt8:=if q then [92,34] else [92]
theorem idx_spc (q:Bool) (b:UInt8):(0:Int)≤Lib.indexByte (spc q) b ↔ (b.toNat=92∨q=true∧b.toNat=34):=by
  have n1:∀ (x y:UInt8),x=y ↔ x.toNat=y.toNat:=fun x y=>⟨fun e=>by rw [e],fun e=>UInt8.toNat_inj.1 e⟩
  have e1:(92:UInt8)=b ↔ b.toNat=92:=by rw [n1];exact eq_comm
  have e2:(34:UInt8)=b ↔ b.toNat=34:=by rw [n1];exact eq_comm
  cases q
  · show 0≤Lib.indexByte [92] b ↔ _
    simp only [Lib.indexByte,beq_iff_eq,e1]
    split <;> rename_i h <;> simp [h]
  · show 0≤Lib.indexByte [92,34] b ↔ _
    simp only [Lib.indexByte,beq_iff_eq,e1,e2]
    split <;> rename_i h
    · simp [h]
    · split <;> rename_i h2
      · simp only [h2];decide
      · simp [h,h2]
theorem idx_any (q:Bool) (b:UInt8) (w:World) :
    Calls Tryz.prog 71 #[.string ⟨(spc q).toArray⟩,.int .u8 (b.toNat:Int)] w fun e w'=>e=.returned (.int .i64 (Lib.indexByte (spc q) b))∧w'=w:=by
  have h:=Tryz.strings_IndexByte ⟨(spc q).toArray⟩ (b.toNat:Int) w
  have hb:((b.toNat:Int).toNat).toUInt8=b:=by simp
  rw [hb] at h
  exact h
def EsI (q:Bool) (T:List UInt8) (l:List UInt8) (i:Nat) (acc:List UInt8):Prop:=T=acc++escL q (l.drop i)
theorem EsI.step {q:Bool} {T l:List UInt8} {i:Nat} {acc:List UInt8} (h:EsI q T l i acc) (hi:i < l.length):EsI q T l (i+1) (acc++esc1 q l[i]):=by
  unfold EsI at *
  rw [h,escL_drop q l i hi,List.append_assoc]
theorem EsI.len {q:Bool} {T l:List UInt8} {i:Nat} {acc:List UInt8} (h:EsI q T l i acc):acc.length≤T.length:=by
  rw [h,List.length_append];omega
theorem cesc_any (q:Bool) (B k:Nat) (w0:World) (pre l:List UInt8) (hT:pre.length+(escL q l).length≤140737488355328) (hl:l.length≤9223372036854775807) (w:World) (hB:BS B k w0 pre w) :
    Calls Tryz.prog 63 #[.pointer (some ⟨k,0,none⟩),.string ⟨l.toArray⟩,.string ⟨(spc q).toArray⟩] w fun r w'=>r=.returned (.tuple #[])∧BS B k w0 (pre++escL q l) w':=by
  obtain ⟨T,hTT⟩:∃ T,T=pre++escL q l:=⟨_,rfl⟩
  rw [← hTT]
  have hTl:T.length≤140737488355328:=by rw [hTT,List.length_append];exact hT
  have HS0:Hid (EsI q T l 0 pre):=hTT
  have HB0:Hid (BS B k w0 pre w):=hB
  have HW:Hid (∀ (W:World) (acc:List UInt8) (b:UInt8),BS B k w0 acc W→acc.length+1≤140737488355328→Calls Tryz.prog 85 #[.pointer (some ⟨k,0,none⟩),.int .u8 (b.toNat:Int)] W fun e w'=>e=.returned .nilIface∧BS B k w0 (acc++[b]) w'):=fun W acc b h1 h2=>wb_any b h1 h2
  have HN:Hid (∀ (W:World) (acc:List UInt8),BS B k w0 acc W→acc.length+2≤140737488355328→Calls Tryz.prog 25 #[.pointer (some ⟨k,0,none⟩),.string ⟨#[92,110]⟩] W fun e w'=>e=.returned (.tuple #[.int .i64 2,.nilIface])∧BS B k w0 (acc++[92,110]) w'):=fun W acc h1 h2=>ws_any [92,110] h1 h2
  have HX:Hid (∀ (b:UInt8) (W:World),Calls Tryz.prog 71 #[.string ⟨(spc q).toArray⟩,.int .u8 (b.toNat:Int)] W fun e w'=>e=.returned (.int .i64 (Lib.indexByte (spc q) b))∧w'=W):=fun b W=>idx_any q b W
  clear hT hTT hB
  have HQ:Hid (∀ b:UInt8,(0:Int)≤Lib.indexByte (spc q) b ↔ (b.toNat=92∨q=true∧b.toNat=34)):=fun b=>idx_spc q b
  generalize hsp:spc q=sp at *
  clear hsp
  go_enter Tryz.func63,Tryz.ntmps63
  go_wp2_with fail
  go_loopw [10] (fun a W=>∃ (i:Nat) (acc:List UInt8),i≤l.length∧a=.int .i64 (i:Int)∧Hid (EsI q T l i acc)∧Hid (BS B k w0 acc W)) (fun a _=>l.length - (intOf a).toNat)
  case atStart=>exact ⟨0,pre,by omega,rfl,HS0,HB0⟩
  case round =>
    clear HS0 HB0
    obtain ⟨i,acc,hi,rfl,HI,HB⟩:=hrel
    by_cases hlt:i < l.length
    · have hlt':(i:Int) < (l.length:Int):=by omega
      have hBy:i < (ByteArray.mk l.toArray).size:=by show i < l.toArray.size;simpa using hlt
      have HI':=HI.out.step hlt
      have hln:=HI'.len
      have hbe:(ByteArray.mk l.toArray)[i]'hBy=l[i]:=rfl
      unfold esc1 at HI' hln
      by_cases g1:l[i].toNat=10
      · have t1:((((ByteArray.mk l.toArray)[i]'hBy).toNat:Int) == 10)=true:=by rw [beq_iff_eq,hbe];omega
        rw [if_neg (by omega),if_pos g1] at HI' hln
        have HI2:Hid _:=HI'
        have HC:HidC _ _ _ _ _:=HN.out wr acc HB.out (by simp at hln;omega)
        clear HI HI' g1 hbe HN HW HX HQ HB hln
        as_aux_lemma =>
          go_wp2_with fail
          refine (HC.out).mono ?_
          rintro e w1 ⟨rfl,hb⟩
          have HBn:Hid _:=hb
          clear HC hb
          go_wp2_with fail
          exact ⟨⟨i+1,_,by omega,by go_num,HI2,HBn⟩,by simp [intOf];omega⟩
      · have t1:((((ByteArray.mk l.toArray)[i]'hBy).toNat:Int) == 10)=false:=by rw [beq_eq_false_iff_ne,hbe];omega
        have HX1:Hid _:=HX.out ((ByteArray.mk l.toArray)[i]'hBy)
        have hq:=HQ.out ((ByteArray.mk l.toArray)[i]'hBy)
        rw [hbe] at hq
        by_cases g2:l[i].toNat=92∨q=true∧l[i].toNat=34
        · rw [if_pos g2] at HI' hln
          have HI2:Hid (EsI q T l (i+1) (acc++[92]++[(ByteArray.mk l.toArray)[i]'hBy])):=by rw [List.append_assoc];exact HI'
          have t2:=hq.2 g2
          simp at hln
          have HC:HidC Tryz.prog 85 #[.pointer (some ⟨k,0,none⟩),.int .u8 92] wr (fun e w'=>e=.returned .nilIface∧BS B k w0 (acc++[92]) w'):=HW.out wr acc 92 HB.out (by omega)
          have HC2:Hid (∀ W,BS B k w0 (acc++[92]) W→Calls Tryz.prog 85 #[.pointer (some ⟨k,0,none⟩),.int .u8 ((((ByteArray.mk l.toArray)[i]'hBy).toNat:Nat):Int)] W fun e w'=>e=.returned .nilIface∧BS B k w0 (acc++[92]++[(ByteArray.mk l.toArray)[i]'hBy]) w'):=fun W h=>HW.out W (acc++[92]) _ h (by simp;omega)
          rw [hbe] at HX1 HI2 HC2
          generalize Lib.indexByte sp l[i]=z at *
          clear HI HI' g1 g2 HN HW HX HQ HB hln hq hbe
          as_aux_lemma =>
            go_wp2_with (go_at_call 71;refine (HX1.out _).mono ?_;rintro e1 w1 ⟨rfl,rfl⟩)
            refine (HC.out).mono ?_
            rintro e w1 ⟨rfl,hb⟩
            have HC3:HidC _ _ _ _ _:=HC2.out w1 hb
            clear HC HC2 hb
            go_wp2_with fail
            refine (HC3.out).mono ?_
            rintro e w2 ⟨rfl,hb⟩
            have HBn:Hid _:=hb
            clear HC3 hb
            go_wp2_with fail
            exact ⟨⟨i+1,_,by omega,by go_num,HI2,HBn⟩,by simp [intOf];omega⟩
        · rw [if_neg g2,if_neg g1] at HI' hln
          have HI2:Hid (EsI q T l (i+1) (acc++[(ByteArray.mk l.toArray)[i]'hBy])):=HI'
          have t2:¬ (0:Int)≤Lib.indexByte sp l[i]:=fun h=>g2 (hq.1 h)
          simp at hln
          have HC:HidC Tryz.prog 85 #[.pointer (some ⟨k,0,none⟩),.int .u8 ((((ByteArray.mk l.toArray)[i]'hBy).toNat:Nat):Int)] wr (fun e w'=>e=.returned .nilIface∧BS B k w0 (acc++[(ByteArray.mk l.toArray)[i]'hBy]) w'):=HW.out wr acc _ HB.out (by omega)
          rw [hbe] at HX1 HI2 HC
          generalize Lib.indexByte sp l[i]=z at *
          clear HI HI' g1 g2 HN HW HX HQ HB hln hq hbe
          as_aux_lemma =>
            go_wp2_with (go_at_call 71;refine (HX1.out _).mono ?_;rintro e1 w1 ⟨rfl,rfl⟩)
            refine (HC.out).mono ?_
            rintro e w1 ⟨rfl,hb⟩
            have HBn:Hid _:=hb
            clear HC hb
            go_wp2_with fail
            exact ⟨⟨i+1,_,by omega,by go_num,HI2,HBn⟩,by simp [intOf];omega⟩
    · have hlt':¬ (i:Int) < (l.length:Int):=by omega
      have HE:Hid (BS B k w0 T wr):=by
        have:=HI.out
        unfold EsI at this
        rw [List.drop_eq_nil_of_le (by omega),escL,List.append_nil] at this
        rw [this]
        exact HB.out
      clear HI HB HN HW HX HQ
      as_aux_lemma =>
        go_wp2_with fail
        refine bodyPost_end (results_none rfl _ _ _) rfl ?_
        exact ⟨rfl,HE.out⟩
end Go.Proofs.YtifapjammoahgaaGreatDoor.La
/- Print, the document's. Own work of the verifier. -/
namespace Go.Proofs.YtifapjammoahgaaGreatDoor.La
open Go.RowKit
def lbT (a:Lb):List UInt8:=a.1++[61,34]++escL true a.2++[34]
def prB:Bool→List Lb→List UInt8
  | _,[]=>[]
  | f,a::r=>(if f then 123 else 44)::(lbT a++prB false r)
def printT (n:List UInt8) (L:List Lb):List UInt8:=n++prB true L++(if L.length=0 then [] else [125])
theorem prB_drop (f:Bool) (L:List Lb) (i:Nat) (h:i < L.length):prB f (L.drop i)=(if f then 123 else 44)::(lbT L[i]++prB false (L.drop (i+1))):=by
  rw [List.drop_eq_getElem_cons h,prB]
theorem sadd (a b:List UInt8) (h:a.length+b.length≤9223372036854775807) (W:World):(Op.stringOp .add ⟨a.toArray⟩ ⟨b.toArray⟩).run Tryz.prog W=.ok (.string ⟨(a++b).toArray⟩) W:=by
  rw [run_string_add_sum W _ _ (by simp [ByteArray.size];omega),ByteArray.mk_append_mk]
end Go.Proofs.YtifapjammoahgaaGreatDoor.La
