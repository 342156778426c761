/- LISTS OF LABELS in memory; SameLabels, the document's. Own work of the verifier. -/
import Derived.Test.YtibahfopmjiffaaGreatDoorSAD
import Derived.Laws.ResultCell
set_option maxRecDepth 100000
set_option maxHeartbeats 2000000
namespace Go.Proofs.YtibahfopmjiffaaGreatDoor.La
open Go.RowKit
abbrev Lb:Type:=List UInt8 × List UInt8
theorem lt_of_cell {w:World} {a:Addr} {v:Value} (h:w.cell? a=some v):a.block < w.heap.size:=by
  unfold World.cell? at h
  split at h
  · rename_i h1
    rcases Nat.lt_or_ge a.block w.heap.size with k | k
    · exact k
    · rw [Array.getElem?_eq_none k] at h1;cases h1
  · cases h
def RowL (W:World) (b o:Nat) (L:List Lb):Prop:=∀ i (h:i < L.length),W.cell? ⟨b,o+i*2,none⟩=some (.string ⟨L[i].1.toArray⟩)∧W.cell? ⟨b,o+i*2+1,none⟩=some (.string ⟨L[i].2.toArray⟩)
theorem RowL.below {W W1:World} {b o:Nat} {L:List Lb} (h:RowL W b o L) (hb:Below W.heap.size W W1):RowL W1 b o L:=fun i hi=>by
  obtain ⟨h1,h2⟩:=h i hi
  rw [hb.cell (p:=⟨b,o+i*2,none⟩) (lt_of_cell h1),hb.cell (p:=⟨b,o+i*2+1,none⟩) (lt_of_cell h2)]
  exact ⟨h1,h2⟩
theorem below_drewN (w:World) (n:Nat):Below w.heap.size w (w.drewN n):=by
  induction n with
  | zero=>exact Below.refl _ _
  | succ n ih=>exact ⟨ih.os,ih.tape,ih.output,ih.size,ih.block⟩
theorem RowL.drew {W:World} {b o:Nat} {L:List Lb} (h:RowL W b o L) (n:Nat):RowL (W.drewN n) b o L:=h.below (below_drewN W n)
theorem retB {A B:Bool} (h:A=B):Ending.returned (Value.bool A)=.returned (.bool B):=by rw [h]
theorem retI {k:IntKind} {A B:Int} (h:A=B):Ending.returned (Value.int k A)=.returned (.int k B):=by rw [h]
theorem samel_any (ao:Option Addr) (b o cap:Nat) (A:List Lb) (hao:A≠[]→ao=some ⟨b,o,none⟩) (ao':Option Addr) (b' o' cap':Nat) (C:List Lb) (hao':C≠[]→ao'=some ⟨b',o',none⟩) (hl:A.length≤9223372036854775807) (w:World) (hA:RowL w b o A) (hC:RowL w b' o' C) :
    Calls Tryz.prog 29 #[.slice ao A.length cap,.slice ao' C.length cap'] w fun e w'=>e=.returned (.bool (decide (A=C)))∧∃ n,w'=w.drewN n:=by
  by_cases hlen:A.length=C.length
  · have ht:((A.length:Int) != (C.length:Int))=false:=by rw [bne_eq_false_iff_eq];omega
    have HL:Hid _:=hlen
    have HA:Hid _:=hA
    have HC:Hid _:=hC
    clear hlen hA hC
    go_enter Tryz.func29,Tryz.ntmps29
    go_wp2_with fail
    go_loopw [5] (fun c wr=>∃ i n:Nat,i≤A.length∧c=.int .i64 (i:Int)∧wr=w.drewN n∧Hid (A.take i=C.take i)) (fun c _=>A.length - (intOf c).toNat)
    case atStart=>exact ⟨0,0,by omega,rfl,rfl,by simp [Hid]⟩
    case round =>
      obtain ⟨i,n,hi,rfl,rfl,hE⟩:=hrel
      by_cases hlt:i < A.length
      · have hlt2:i < C.length:=by have:=HL.out;omega
        obtain rfl:=hao (by intro e;rw [e] at hlt;simp at hlt)
        obtain rfl:=hao' (by intro e;rw [e] at hlt2;simp at hlt2)
        have hlt':(i:Int) < (A.length:Int):=by omega
        have hlt2':(i:Int) < (C.length:Int):=by omega
        obtain ⟨q1,q2⟩:=HA.out i hlt
        obtain ⟨q3,q4⟩:=HC.out i hlt2
        have HT1:Hid (A.take (i+1)=A.take i++[A[i]]):=List.take_succ_eq_append_getElem hlt
        have HT2:Hid (C.take (i+1)=C.take i++[C[i]]):=List.take_succ_eq_append_getElem hlt2
        have HN:Hid (A[i]≠C[i]→A≠C):=fun h e=>h (by subst e;rfl)
        obtain ⟨x,y,hxy⟩:∃ x y,A[i]=(x,y):=⟨_,_,rfl⟩
        obtain ⟨u,v,huv⟩:∃ u v,C[i]=(u,v):=⟨_,_,rfl⟩
        rw [hxy] at q1 q2 HT1 HN
        rw [huv] at q3 q4 HT2 HN
        clear hxy huv
        by_cases he:x=u∧y=v
        · obtain ⟨rfl,rfl⟩:=he
          clear HN
          as_aux_lemma =>
            go_wp2_with fail
            go_region
            go_wp2_with fail
            exact ⟨⟨i+1,n+1,by omega,by go_num,rfl,by unfold Hid;rw [HT1.out,HT2.out,hE.out]⟩,by simp [intOf];omega⟩
        · have hne:decide (A=C)=false:=decide_eq_false (HN.out (fun e=>he ⟨(Prod.mk.inj e).1,(Prod.mk.inj e).2⟩))
          have HNE:Hid _:=hne
          have hor:(x == u)=false∨(x=u∧(y == v)=false):=by
            by_cases h1:x=u
            · right
              exact ⟨h1,by simpa using fun h2=>he ⟨h1,h2⟩⟩
            · left
              simpa using h1
          clear he hne HN HT1 HT2 hE
          rcases hor with h1 | ⟨rfl,h1⟩
          · as_aux_lemma =>
              go_wp2_with fail
              go_region
              go_wp2_with fail
              go_ret
              exact ⟨retB HNE.out.symm,n+1,rfl⟩
          · as_aux_lemma =>
              go_wp2_with fail
              go_region
              go_wp2_with fail
              go_ret
              exact ⟨retB HNE.out.symm,n+1,rfl⟩
      · obtain rfl:i=A.length:=by omega
        have hlt':¬ (A.length:Int) < (A.length:Int):=by omega
        have he:decide (A=C)=true:=by
          have:=hE.out
          rw [List.take_length,HL.out,List.take_length] at this
          exact decide_eq_true this
        have HE:Hid _:=he
        clear he
        as_aux_lemma =>
          go_wp2_with fail
          go_ret
          exact ⟨retB HE.out.symm,n,rfl⟩
  · have ht:((A.length:Int) != (C.length:Int))=true:=by rw [bne_iff_ne];omega
    have he:decide (A=C)=false:=decide_eq_false (fun e=>hlen (by rw [e]))
    rw [he]
    clear he hlen hA hC
    as_aux_lemma =>
      go_enter Tryz.func29,Tryz.ntmps29
      go_wp2_with fail
      go_ret
      exact ⟨rfl,0,rfl⟩
end Go.Proofs.YtibahfopmjiffaaGreatDoor.La
/- Same, Compare, the document's. Own work of the verifier. -/
namespace Go.Proofs.YtibahfopmjiffaaGreatDoor.La
open Go.RowKit
structure Ds where
  kind:Int
  name:List UInt8
  help:List UInt8
  labels:List Lb
  deriving DecidableEq
structure DsAt (W:World) (d:Ds) (v:Value):Prop where
  ex:∃ (ao:Option Addr) (b o cap:Nat),v=.agg #[.int .i64 d.kind,.string ⟨d.name.toArray⟩,.string ⟨d.help.toArray⟩,.slice ao d.labels.length cap]∧(d.labels≠[]→ao=some ⟨b,o,none⟩)∧d.labels.length≤9223372036854775807∧RowL W b o d.labels
theorem bel2 (w:World) (o1 o2:Obj):Below w.heap.size w ((w.alloc o1).alloc o2) :=
  ((Below.refl _ _).alloc (Nat.le_refl _) _).alloc (by simp) _
end Go.Proofs.YtibahfopmjiffaaGreatDoor.La
/- Check, the document's. Own work of the verifier. -/
set_option maxRecDepth 100000
set_option maxHeartbeats 4000000
namespace Go.Proofs.YtibahfopmjiffaaGreatDoor.La
open Go.RowKit
def chkL:List Lb→Option (List UInt8)→Int
  | [],_=>0
  | a::r,p=>if lnameB a.1=false then 9 else if txE a.2≠0 then txE a.2 else
    match p with
    | none=>chkL r (some a.1)
    | some q=>if bhE q a.1≠0 then bhE q a.1 else chkL r (some a.1)
def chkD (d:Ds):Int:=if d.kind < 1∨3 < d.kind then 7 else if nameB d.name=false then 9 else if txE d.help≠0 then txE d.help else if 16 < d.labels.length then 3 else chkL d.labels none
def prv (A:List Lb) (i:Nat):Option (List UInt8):=if i=0 then none else (A[i - 1]?).map (·.1)
theorem prv_succ (A:List Lb) (i:Nat) (h:i < A.length):prv A (i+1)=some A[i].1:=by
  unfold prv
  rw [if_neg (by omega),Nat.add_sub_cancel,List.getElem?_eq_getElem h]
  rfl
theorem chkL_drop (A:List Lb) (i:Nat) (p:Option (List UInt8)) (h:i < A.length):chkL (A.drop i) p=if lnameB A[i].1=false then 9 else if txE A[i].2≠0 then txE A[i].2 else
    match p with
    | none=>chkL (A.drop (i+1)) (some A[i].1)
    | some q=>if bhE q A[i].1≠0 then bhE q A[i].1 else chkL (A.drop (i+1)) (some A[i].1):=by
  rw [List.drop_eq_getElem_cons h]
  cases p <;> simp only [chkL]
def DsS (d:Ds):Prop:=d.name.length≤4611686018427387904∧d.help.length≤4611686018427387904∧∀ a ∈ d.labels,a.1.length≤4611686018427387904∧a.2.length≤4611686018427387904
theorem bel_drewN {B:Nat} {a w:World} (h:Below B a w) (n:Nat):Below B a (w.drewN n):=by
  induction n with
  | zero=>exact h
  | succ n ih=>exact ⟨ih.os,ih.tape,ih.output,ih.size,ih.block⟩
structure KH (w:World) (ao:Option Addr) (b o cap:Nat) (A:List Lb) (W:World):Prop where
  f:W.cell? ⟨w.heap.size,3,none⟩=some (.slice ao A.length cap)
  r:RowL W b o A
  bl:Below w.heap.size w W
theorem KH.below {w W W1:World} {ao:Option Addr} {b o cap:Nat} {A:List Lb} (h:KH w ao b o cap A W) (hb:Below W.heap.size W W1):KH w ao b o cap A W1 :=
  ⟨by rw [hb.cell (p:=⟨w.heap.size,3,none⟩) (lt_of_cell h.f)];exact h.f,h.r.below hb,h.bl.trans (hb.mono h.bl.size)⟩
theorem bel_drew {B:Nat} {a w:World} (h:Below B a w):Below B a w.drew:=⟨h.os,h.tape,h.output,h.size,h.block⟩
theorem sizeL (W:World):(sizeOf 98).run Tryz.prog W=.ok 2 W:=by simp [sizeOf];rfl
theorem index_lab (b o len cap j:Nat) (z:Int) (hz:z=(j:Int)) (hj:j < len) (W:World) :
    (Instr.indexAt 23 (.slice (some ⟨b,o,none⟩) len cap) (.int .i64 z)).run Tryz.prog W=.ok (.pointer (some ⟨b,o+j*2,none⟩)) W:=by
  subst hz
  have he:Tryz.prog.elem 23=98:=by simp [Program.elem,Tryz.underlying23]
  rw [run_indexAt_slice W 23 ⟨b,o,none⟩ len cap .i64 (j:Int) (by rw [he];exact Tryz.underlying23),if_pos (by omega),he,sizeL]
  simp [Addr.add]
theorem dcheck_any (d:Ds) (v:Value) (w:World) (hd:DsAt w d v) (hs:DsS d) :
    Calls Tryz.prog 44 #[v] w fun r w'=>r=.returned (.int .i64 (chkD d))∧Below w.heap.size w w':=by
  obtain ⟨ao,b,o,cap,rfl,h1,h2,h3⟩:=hd.ex
  obtain ⟨kd,n,h,A⟩:=d
  obtain ⟨s1,s2,s3⟩:=hs
  have HN:Hid _:=fun W=>name_any n s1 W
  have HH:Hid _:=fun W=>ltext_any h s2 W
  have HLn:Hid (∀ l:List UInt8,l.length≤4611686018427387904→∀ W,Calls Tryz.prog 67 #[.string ⟨l.toArray⟩] W fun r w'=>r=.returned (.bool (lnameB l))∧w'=W):=fun l hl W=>lname_any l hl W
  have HTx:Hid (∀ l:List UInt8,l.length≤4611686018427387904→∀ W,Calls Tryz.prog 66 #[.string ⟨l.toArray⟩] W fun r w'=>r=.returned (.int .i64 (txE l))∧w'=W):=fun l hl W=>ltext_any l hl W
  have HBh:Hid (∀ (a b:List UInt8) W,Calls Tryz.prog 68 #[.string ⟨a.toArray⟩,.string ⟨b.toArray⟩] W fun r w'=>r=.returned (.int .i64 (bhE a b))∧w'=W):=fun a b W=>behind_any a b W
  have HS3:Hid (∀ a ∈ A,a.1.length≤4611686018427387904∧a.2.length≤4611686018427387904):=s3
  have HK0:Hid (∀ t,KH w ao b o cap A (w.alloc (.cells #[.int .i64 kd,.string ⟨n.toArray⟩,.string ⟨h.toArray⟩,.slice ao A.length cap] t))):=fun t=>⟨by simp [go_sem],h3.below (bel1 w _),bel1 w _⟩
  have hD:chkD ⟨kd,n,h,A⟩=if kd < 1∨3 < kd then 7 else if nameB n=false then 9 else if txE h≠0 then txE h else if 16 < A.length then 3 else chkL A none:=rfl
  rw [hD]
  clear hD hd h3 s1 s2 s3
  by_cases g1:kd < 1
  · rw [if_pos (Or.inl g1)]
    clear HN HH HLn HTx HBh HS3 HK0
    as_aux_lemma =>
      go_enter Tryz.func44,Tryz.ntmps44
      go_wp2_with fail
      go_ret
      exact ⟨rfl,bel1 w _⟩
  by_cases g2:3 < kd
  · rw [if_pos (Or.inr g2)]
    clear HN HH HLn HTx HBh HS3 HK0
    as_aux_lemma =>
      go_enter Tryz.func44,Tryz.ntmps44
      go_wp2_with fail
      go_ret
      exact ⟨rfl,bel1 w _⟩
  rw [if_neg (by omega)]
  generalize nameB n=nb at *
  cases nb
  · rw [if_pos rfl]
    clear HH HLn HTx HBh HS3 HK0
    as_aux_lemma =>
      go_enter Tryz.func44,Tryz.ntmps44
      go_wp2_with fail
      refine (HN.out _).mono ?_
      rintro r w1 ⟨rfl,rfl⟩
      go_wp2_with fail
      go_ret
      exact ⟨rfl,bel1 w _⟩
  rw [if_neg (by decide)]
  generalize txE h=z at *
  by_cases g3:z=0
  · subst g3
    rw [if_neg (by decide)]
    by_cases g4:16 < A.length
    · have g4':(16:Int) < (A.length:Int):=by omega
      rw [if_pos g4]
      clear HLn HTx HBh HS3 HK0
      as_aux_lemma =>
        go_enter Tryz.func44,Tryz.ntmps44
        go_wp2_with fail
        refine (HN.out _).mono ?_
        rintro r w1 ⟨rfl,rfl⟩
        go_wp2_with fail
        refine (HH.out _).mono ?_
        rintro r w1 ⟨rfl,rfl⟩
        go_wp2_with fail
        go_ret
        exact ⟨rfl,bel1 w _⟩
    have g4':¬ (16:Int) < (A.length:Int):=by omega
    rw [if_neg g4]
    obtain ⟨R,hR⟩:∃ R,R=chkL A none:=⟨_,rfl⟩
    rw [← hR]
    have HR0:Hid (R=chkL (A.drop 0) (prv A 0)):=hR
    clear hR
    go_enter Tryz.func44,Tryz.ntmps44
    go_wp2_with fail
    refine (HN.out _).mono ?_
    rintro r w1 ⟨rfl,rfl⟩
    go_wp2_with fail
    refine (HH.out _).mono ?_
    rintro r w1 ⟨rfl,rfl⟩
    clear HN HH
    go_wp2_with fail
    go_loopw [4] (fun a W=>∃ i:Nat,i≤A.length∧a=.int .i64 (i:Int)∧Hid (R=chkL (A.drop i) (prv A i))∧Hid (KH w ao b o cap A W)) (fun a _=>A.length - (intOf a).toNat)
    case atStart=>exact ⟨0,by omega,rfl,HR0,HK0.out _⟩
    case round =>
      clear HK0 HR0
      obtain ⟨i,hi,rfl,HR,HK⟩:=hrel
      have f1:=HK.out.f
      by_cases hlt:i < A.length
      · have hlt':(i:Int) < (A.length:Int):=by omega
        obtain rfl:=h1 (by intro k;change A=[] at k;rw [k] at hlt;simp at hlt)
        obtain ⟨q1,q2⟩:=HK.out.r i hlt
        obtain ⟨m1,m2⟩:=HS3.out A[i] (List.getElem_mem hlt)
        have hS:=HR.out
        rw [chkL_drop A i _ hlt] at hS
        have HL1:Hid _:=HLn.out A[i].1 m1
        have HT1:Hid _:=HTx.out A[i].2 m2
        have HB1:Hid (∀ p,Hid (∀ W,Calls Tryz.prog 68 #[.string ⟨p.toArray⟩,.string ⟨A[i].1.toArray⟩] W fun r w'=>r=.returned (.int .i64 (bhE p A[i].1))∧w'=W)):=fun p=>HBh.out p A[i].1
        have HPr:Hid (prv A (i+1)=some A[i].1):=prv_succ A i hlt
        have HKn:Hid (∀ t,KH w (some ⟨b,o,none⟩) b o cap A (wr.alloc (.cells #[.string ⟨A[i].1.toArray⟩,.string ⟨A[i].2.toArray⟩] t))):=fun t=>HK.out.below (bel1 wr _)
        have hBl:=HK.out.bl
        generalize lnameB A[i].1=lb at *
        generalize txE A[i].2=tz at *
        generalize hx1:A[i].1=x1 at *
        generalize A[i].2=x2 at *
        clear HR HLn HTx HBh m1 m2 hx1
        cases lb
        · rw [if_pos rfl] at hS
          have HF:Hid _:=hS
          clear hS HK HT1 HB1 HPr HKn HS3
          as_aux_lemma =>
            go_wp2_with fail
            refine (HL1.out _).mono ?_
            rintro r w1 ⟨rfl,rfl⟩
            go_wp2_with fail
            go_ret
            exact ⟨retI HF.out.symm,hBl.trans ((bel1 wr _).mono hBl.size)⟩
        rw [if_neg (by decide)] at hS
        by_cases e1:tz=0
        · subst e1
          rw [if_neg (by decide)] at hS
          by_cases i0:i=0
          · have i0':((i:Int) == 0)=true:=by rw [beq_iff_eq];omega
            have HF:Hid (R=chkL (A.drop (i+1)) (prv A (i+1))):=by
              show R=_
              rw [HPr.out]
              have hp:prv A i=none:=by unfold prv;rw [if_pos i0]
              rw [hp] at hS
              exact hS
            clear hS HK HB1 HPr HS3 i0
            as_aux_lemma =>
              go_wp2_with fail
              refine (HL1.out _).mono ?_
              rintro r w1 ⟨rfl,rfl⟩
              go_wp2_with fail
              refine (HT1.out _).mono ?_
              rintro r w1 ⟨rfl,rfl⟩
              go_wp2_with fail
              exact ⟨⟨i+1,by omega,by go_num,HF,HKn.out _⟩,by simp [intOf];omega⟩
          · obtain ⟨j,hj⟩:∃ j,i=j+1:=⟨i - 1,by omega⟩
            have jlt:j < A.length:=by omega
            have i0':((i:Int) == 0)=false:=by rw [beq_eq_false_iff_ne];omega
            have hj':(i:Int) - 1=(j:Int):=by omega
            have jlt':(j:Int) < (A.length:Int):=by omega
            have hix:=index_lab b o A.length cap j ((i:Int) - 1) hj' jlt
            have hwr:IntKind.i64.wrap ((i:Int) - 1)=(j:Int):=by rw [IntKind.wrap_i64];omega
            have hp:prv A i=some A[j].1:=by rw [hj];exact prv_succ A j jlt
            rw [hp] at hS
            have HB2:Hid _:=(HB1.out A[j].1).out
            have q5:=((HKn.out 98).r j jlt).1
            have f5:=(HKn.out 98).f
            have HKm:Hid _:=HKn.out 98
            have c5:(wr.alloc (.cells #[.string ⟨x1.toArray⟩,.string ⟨x2.toArray⟩] 98)).cell? ⟨wr.heap.size,0,none⟩=some (.string ⟨x1.toArray⟩):=by simp [go_sem]
            have HC5:Hid _:=c5
            have HF5:Hid _:=f5
            have HQ5:Hid _:=q5
            clear c5 f5 q5 HKn
            have hS':R=if bhE A[j].1 x1≠0 then bhE A[j].1 x1 else chkL (A.drop (i+1)) (some x1):=hS
            clear hS
            generalize bhE A[j].1 x1=bz at *
            generalize A[j].1=pq at *
            clear hp HB1 HS3 HK hj i0
            as_aux_lemma =>
            go_wp2_with fail
            refine (HL1.out _).mono ?_
            rintro r w1 ⟨rfl,rfl⟩
            go_wp2_with fail
            refine (HT1.out _).mono ?_
            rintro r w1 ⟨rfl,rfl⟩
            clear HL1 HT1
            generalize wr.alloc (.cells #[.string ⟨x1.toArray⟩,.string ⟨x2.toArray⟩] 98)=W5 at *
            have c5:=HC5.out
            have f5:=HF5.out
            have q5:=HQ5.out
            clear HC5 HF5 HQ5
            go_upto_region 20 with fail
            go_cut [7] from 54 to 63 (fun v W=>v=.int .i64 bz∧Hid (KH w (some ⟨b,o,none⟩) b o cap A W))
            case first =>
              clear hS'
              as_aux_lemma =>
                go_quiet (first | (go_at_call 68;exact Calls.quiet_of_same (HB2.out _)))
                go_wp2_with fail
                go_meet
                exact ⟨rfl,HKm.out.below (bel_drewN (Below.refl _ _) _)⟩
            case rest =>
            obtain ⟨rfl,HK5⟩:=hcut
            clear HB2 q5 f5 c5 HKm
            by_cases e2:bz=0
            · subst e2
              rw [if_neg (by decide)] at hS'
              have HF:Hid (R=chkL (A.drop (i+1)) (prv A (i+1))):=by
                show R=_
                rw [HPr.out]
                exact hS'
              clear hS' HPr
              as_aux_lemma =>
                go_wp2_with fail
                exact ⟨⟨i+1,by omega,by go_num,HF,HK5⟩,by simp [intOf];omega⟩
            · have e2':(bz != 0)=true:=by simpa using e2
              rw [if_pos e2] at hS'
              have HF:Hid _:=hS'
              have hbl:=HK5.out.bl
              clear hS' HPr e2 HK5
              as_aux_lemma =>
                go_wp2_with fail
                go_ret
                exact ⟨retI HF.out.symm,hbl⟩
        · rw [if_pos e1] at hS
          have e1':(tz != 0)=true:=by simpa using e1
          have HF:Hid _:=hS
          clear hS HK HB1 HPr HKn HS3 e1
          as_aux_lemma =>
            go_wp2_with fail
            refine (HL1.out _).mono ?_
            rintro r w1 ⟨rfl,rfl⟩
            go_wp2_with fail
            refine (HT1.out _).mono ?_
            rintro r w1 ⟨rfl,rfl⟩
            go_wp2_with fail
            go_ret
            exact ⟨retI HF.out.symm,hBl.trans ((bel1 wr _).mono hBl.size)⟩
      · have hlt':¬ (i:Int) < (A.length:Int):=by omega
        have hS:=HR.out
        rw [List.drop_eq_nil_of_le (by omega),chkL] at hS
        have HF:Hid _:=hS
        have hbl:=HK.out.bl
        clear HR HK hS HLn HTx HBh HS3
        as_aux_lemma =>
          go_wp2_with fail
          go_ret
          exact ⟨retI HF.out.symm,hbl⟩
  · rw [if_pos g3]
    have g3':(z != 0)=true:=by simpa using g3
    clear HLn HTx HBh HS3 HK0 g3
    as_aux_lemma =>
      go_enter Tryz.func44,Tryz.ntmps44
      go_wp2_with fail
      refine (HN.out _).mono ?_
      rintro r w1 ⟨rfl,rfl⟩
      go_wp2_with fail
      refine (HH.out _).mono ?_
      rintro r w1 ⟨rfl,rfl⟩
      go_wp2_with fail
      go_ret
      exact ⟨rfl,bel1 w _⟩
end Go.Proofs.YtibahfopmjiffaaGreatDoor.La
/- Print, the document's. Own work of the verifier. -/
set_option maxRecDepth 100000
set_option maxHeartbeats 4000000
namespace Go.Proofs.YtibahfopmjiffaaGreatDoor.La
open Go.RowKit
def lbT (a:Lb):List UInt8:=a.1++[61,34]++escL true a.2++[34]
def prB:Bool→List Lb→List UInt8
  | _,[]=>[]
  | f,a::r=>(if f then 123 else 44)::(lbT a++prB false r)
def printT (n:List UInt8) (L:List Lb):List UInt8:=n++prB true L++(if L.length=0 then [] else [125])
theorem prB_drop (f:Bool) (L:List Lb) (i:Nat) (h:i < L.length):prB f (L.drop i)=(if f then 123 else 44)::(lbT L[i]++prB false (L.drop (i+1))):=by
  rw [List.drop_eq_getElem_cons h,prB]
theorem sadd (a b:List UInt8) (h:a.length+b.length≤9223372036854775807) (W:World):(Op.stringOp .add ⟨a.toArray⟩ ⟨b.toArray⟩).run Tryz.prog W=.ok (.string ⟨(a++b).toArray⟩) W:=by
  rw [run_string_add_sum W _ _ (by simp [ByteArray.size];omega),ByteArray.mk_append_mk]
structure KQ (w:World) (b o:Nat) (A:List Lb) (W:World):Prop where
  r:RowL W b o A
  bl:Below w.heap.size w W
theorem KQ.below {w W W1:World} {b o:Nat} {A:List Lb} (h:KQ w b o A W) (hb:Below W.heap.size W W1):KQ w b o A W1:=⟨h.r.below hb,h.bl.trans (hb.mono h.bl.size)⟩
theorem keepQ {w W W1:World} {b o i:Nat} {A:List Lb} {x y:Value} (hb:Below W.heap.size W W1)
    (h:W.cell? ⟨b,o+i*2,none⟩=some x∧W.cell? ⟨b,o+i*2+1,none⟩=some y∧KQ w b o A W) :
    W1.cell? ⟨b,o+i*2,none⟩=some x∧W1.cell? ⟨b,o+i*2+1,none⟩=some y∧KQ w b o A W1:=by
  obtain ⟨h1,h2,h3⟩:=h
  exact ⟨by rw [hb.cell (p:=⟨b,o+i*2,none⟩) (lt_of_cell h1)];exact h1,by rw [hb.cell (p:=⟨b,o+i*2+1,none⟩) (lt_of_cell h2)];exact h2,h3.below hb⟩
theorem dprint_any (n:List UInt8) (ao:Option Addr) (b o cap:Nat) (A:List Lb) (hao:A≠[]→ao=some ⟨b,o,none⟩) (hl:A.length≤9223372036854775807) (hv:∀ a ∈ A,a.2.length≤35184372088832) (hT:(printT n A).length≤4611686018427387904) (w:World) (hR:RowL w b o A) :
    Calls Tryz.prog 41 #[.string ⟨n.toArray⟩,.slice ao A.length cap] w fun r w'=>r=.returned (.string ⟨(printT n A).toArray⟩)∧Below w.heap.size w w':=by
  have HE:Hid (∀ l:List UInt8,l.length≤35184372088832→∀ W,Calls Tryz.prog 61 #[.string ⟨l.toArray⟩,.bool true] W fun r w'=>r=.returned (.string ⟨(escL true l).toArray⟩)∧Below W.heap.size W w'):=fun l h W=>escaped_any l true h W
  have hP:printT n A=n++prB true A++(if A.length=0 then [] else [125]):=rfl
  obtain ⟨R,hR0⟩:∃ R,R=n++prB true A:=⟨_,rfl⟩
  rw [← hR0] at hP
  rw [hP] at hT
  obtain ⟨T,hTT⟩:∃ T,T=printT n A:=⟨_,rfl⟩
  rw [← hTT]
  have HTT:Hid (T=R++(if A.length=0 then [] else [125])):=by show T=_;rw [hTT,hP]
  clear hTT
  have HR0:Hid (R=n++prB (decide (0=0)) (A.drop 0)):=hR0
  have hRl:R.length≤4611686018427387904:=by rw [List.length_append] at hT;omega
  have HK0:Hid (KQ w b o A w):=⟨hR,Below.refl _ _⟩
  have HV:Hid _:=hv
  clear hR hP hR0 hv
  go_enter Tryz.func41,Tryz.ntmps41
  go_wp2_with fail
  go_loopw [5,6] (fun v a W=>∃ (i:Nat) (s:List UInt8),i≤A.length∧a=.int .i64 (i:Int)∧v=.string ⟨s.toArray⟩∧Hid (R=s++prB (decide (i=0)) (A.drop i))∧Hid (KQ w b o A W)) (fun _ a _=>A.length - (intOf a).toNat)
  case atStart=>exact ⟨0,n,by omega,rfl,rfl,HR0,HK0⟩
  case round =>
    clear HR0 HK0
    obtain ⟨i,s,hi,rfl,rfl,HR,HK⟩:=hrel
    by_cases hlt:i < A.length
    · have hlt':(i:Int) < (A.length:Int):=by omega
      obtain rfl:=hao (by intro k;rw [k] at hlt;simp at hlt)
      obtain ⟨q1,q2⟩:=HK.out.r i hlt
      have m2:=HV.out A[i] (List.getElem_mem hlt)
      have hS:=HR.out
      rw [prB_drop _ A i hlt] at hS
      have HE1:Hid _:=HE.out A[i].2 m2
      have hlb:lbT A[i]=A[i].1++[61,34]++escL true A[i].2++[34]:=rfl
      rw [hlb] at hS
      have hlen:=congrArg List.length hS
      simp only [List.length_append,List.length_cons,List.length_nil] at hlen
      generalize escL true A[i].2=e2 at *
      generalize A[i].1=x1 at *
      generalize A[i].2=x2 at *
      clear HR HE hlb m2 HV
      have b1:s.length≤4611686018427387904:=by omega
      have b2:x1.length≤4611686018427387904:=by omega
      have b3:e2.length≤4611686018427387904:=by omega
      have b4:s.length+x1.length+e2.length≤4611686018427387904:=by omega
      clear hlen
      by_cases i0:i=0
      · have i0':((i:Int) == 0)=true:=by rw [beq_iff_eq];omega
        rw [decide_eq_true i0,if_pos rfl] at hS
        obtain ⟨s1,hs1⟩:∃ s1,s1=s++[123]:=⟨_,rfl⟩
        obtain ⟨y1,hy1⟩:∃ y1,y1=x1++[61,34]:=⟨_,rfl⟩
        obtain ⟨y2,hy2⟩:∃ y2,y2=y1++e2:=⟨_,rfl⟩
        obtain ⟨y3,hy3⟩:∃ y3,y3=y2++[34]:=⟨_,rfl⟩
        obtain ⟨s2,hs2⟩:∃ s2,s2=s1++y3:=⟨_,rfl⟩
        have HF:Hid (R=s2++prB (decide (i+1=0)) (A.drop (i+1))):=by
          show R=_
          rw [hS,decide_eq_false (by omega),hs2,hs1,hy3,hy2,hy1]
          simp
        have a0:∀ W,(Op.stringOp .add ⟨s.toArray⟩ ⟨#[123]⟩).run Tryz.prog W=.ok (.string ⟨s1.toArray⟩) W:=fun W=>by rw [hs1];exact sadd s [123] (by simp;omega) W
        have a1:∀ W,(Op.stringOp .add ⟨x1.toArray⟩ ⟨#[61,34]⟩).run Tryz.prog W=.ok (.string ⟨y1.toArray⟩) W:=fun W=>by rw [hy1];exact sadd x1 [61,34] (by simp;omega) W
        have a2:∀ W,(Op.stringOp .add ⟨y1.toArray⟩ ⟨e2.toArray⟩).run Tryz.prog W=.ok (.string ⟨y2.toArray⟩) W:=fun W=>by rw [hy2];exact sadd y1 e2 (by rw [hy1];simp;omega) W
        have a3:∀ W,(Op.stringOp .add ⟨y2.toArray⟩ ⟨#[34]⟩).run Tryz.prog W=.ok (.string ⟨y3.toArray⟩) W:=fun W=>by rw [hy3];exact sadd y2 [34] (by rw [hy2,hy1];simp;omega) W
        have a4:∀ W,(Op.stringOp .add ⟨s1.toArray⟩ ⟨y3.toArray⟩).run Tryz.prog W=.ok (.string ⟨s2.toArray⟩) W:=fun W=>by rw [hs2];exact sadd s1 y3 (by rw [hs1,hy3,hy2,hy1];simp;omega) W
        clear hS i0 hs1 hy1 hy2 hy3 hs2
        as_aux_lemma =>
        go_wp2_with fail
        have hG0:wr.cell? ⟨b,o+i*2,none⟩=some (.string ⟨x1.toArray⟩)∧wr.cell? ⟨b,o+i*2+1,none⟩=some (.string ⟨x2.toArray⟩)∧KQ w b o A wr:=⟨q1,q2,HK.out⟩
        go_region_held3 (fun W=>W.cell? ⟨b,o+i*2,none⟩=some (.string ⟨x1.toArray⟩)∧W.cell? ⟨b,o+i*2+1,none⟩=some (.string ⟨x2.toArray⟩)∧KQ w b o A W)
          (first | assumption | exact keepQ (by assumption) (by assumption) | exact keepQ (bel_drew (Below.refl _ _)) hG0 | exact keepQ (bel_drewN (Below.refl _ _) _) hG0)
          (first | (go_at_call 61;with_reducible refine (HE1.out _).mono ?_;rintro r w1 ⟨rfl,hb1⟩))
        rename_i hG1
        go_wp2_with fail
        exact ⟨⟨i+1,s2,by omega,by go_num,rfl,HF,hG1.2.2⟩,by simp [intOf];omega⟩
      · have i0':((i:Int) == 0)=false:=by rw [beq_eq_false_iff_ne];omega
        rw [decide_eq_false i0,if_neg (by decide)] at hS
        obtain ⟨s1,hs1⟩:∃ s1,s1=s++[44]:=⟨_,rfl⟩
        obtain ⟨y1,hy1⟩:∃ y1,y1=x1++[61,34]:=⟨_,rfl⟩
        obtain ⟨y2,hy2⟩:∃ y2,y2=y1++e2:=⟨_,rfl⟩
        obtain ⟨y3,hy3⟩:∃ y3,y3=y2++[34]:=⟨_,rfl⟩
        obtain ⟨s2,hs2⟩:∃ s2,s2=s1++y3:=⟨_,rfl⟩
        have HF:Hid (R=s2++prB (decide (i+1=0)) (A.drop (i+1))):=by
          show R=_
          rw [hS,decide_eq_false (by omega),hs2,hs1,hy3,hy2,hy1]
          simp
        have a0:∀ W,(Op.stringOp .add ⟨s.toArray⟩ ⟨#[44]⟩).run Tryz.prog W=.ok (.string ⟨s1.toArray⟩) W:=fun W=>by rw [hs1];exact sadd s [44] (by simp;omega) W
        have a1:∀ W,(Op.stringOp .add ⟨x1.toArray⟩ ⟨#[61,34]⟩).run Tryz.prog W=.ok (.string ⟨y1.toArray⟩) W:=fun W=>by rw [hy1];exact sadd x1 [61,34] (by simp;omega) W
        have a2:∀ W,(Op.stringOp .add ⟨y1.toArray⟩ ⟨e2.toArray⟩).run Tryz.prog W=.ok (.string ⟨y2.toArray⟩) W:=fun W=>by rw [hy2];exact sadd y1 e2 (by rw [hy1];simp;omega) W
        have a3:∀ W,(Op.stringOp .add ⟨y2.toArray⟩ ⟨#[34]⟩).run Tryz.prog W=.ok (.string ⟨y3.toArray⟩) W:=fun W=>by rw [hy3];exact sadd y2 [34] (by rw [hy2,hy1];simp;omega) W
        have a4:∀ W,(Op.stringOp .add ⟨s1.toArray⟩ ⟨y3.toArray⟩).run Tryz.prog W=.ok (.string ⟨s2.toArray⟩) W:=fun W=>by rw [hs2];exact sadd s1 y3 (by rw [hs1,hy3,hy2,hy1];simp;omega) W
        clear hS i0 hs1 hy1 hy2 hy3 hs2
        as_aux_lemma =>
        go_wp2_with fail
        have hG0:wr.cell? ⟨b,o+i*2,none⟩=some (.string ⟨x1.toArray⟩)∧wr.cell? ⟨b,o+i*2+1,none⟩=some (.string ⟨x2.toArray⟩)∧KQ w b o A wr:=⟨q1,q2,HK.out⟩
        go_region_held3 (fun W=>W.cell? ⟨b,o+i*2,none⟩=some (.string ⟨x1.toArray⟩)∧W.cell? ⟨b,o+i*2+1,none⟩=some (.string ⟨x2.toArray⟩)∧KQ w b o A W)
          (first | assumption | exact keepQ (by assumption) (by assumption) | exact keepQ (bel_drew (Below.refl _ _)) hG0 | exact keepQ (bel_drewN (Below.refl _ _) _) hG0)
          (first | (go_at_call 61;with_reducible refine (HE1.out _).mono ?_;rintro r w1 ⟨rfl,hb1⟩))
        rename_i hG1
        go_wp2_with fail
        exact ⟨⟨i+1,s2,by omega,by go_num,rfl,HF,hG1.2.2⟩,by simp [intOf];omega⟩
    · have hlt':¬ (i:Int) < (A.length:Int):=by omega
      have hS:=HR.out
      rw [List.drop_eq_nil_of_le (by omega),prB,List.append_nil] at hS
      have hbl:=HK.out.bl
      have HF:Hid (R=s):=hS
      have hsl:s.length≤4611686018427387904:=by rw [← hS];exact hRl
      clear HR HK HE HV hS hT hRl
      by_cases z:A.length=0
      · have z':¬ (0:Int) < (A.length:Int):=by omega
        have HE2:Hid (T=s):=by
          show T=s
          rw [HTT.out,if_pos z,List.append_nil];exact HF.out
        clear z HTT HF
        as_aux_lemma =>
          go_wp2_with fail
          go_ret
          exact ⟨congrArg (fun z:List UInt8=>Ending.returned (Value.string ⟨z.toArray⟩)) HE2.out.symm,hbl⟩
      · have z':(0:Int) < (A.length:Int):=by omega
        have a0:∀ W,(Op.stringOp .add ⟨s.toArray⟩ ⟨#[125]⟩).run Tryz.prog W=.ok (.string ⟨T.toArray⟩) W:=fun W=>by rw [HTT.out,if_neg z,HF.out];exact sadd s [125] (by simp;omega) W
        clear z HTT HF
        as_aux_lemma =>
          go_wp2_with fail
          go_ret
          exact ⟨rfl,hbl⟩
end Go.Proofs.YtibahfopmjiffaaGreatDoor.La
/- value, the document's. Own work of the verifier. -/
namespace Go.Proofs.YtibahfopmjiffaaGreatDoor.La
open Go.RowKit
def valR:List UInt8→Nat→Except (Int × Nat) (List UInt8 × Nat)
  | [],p=>.error (5,p)
  | b::r,p=>if b.toNat=34 then .ok ([],p+1) else if b.toNat=10 then .error (5,p) else if b.toNat=92 then
      match r with
      | []=>.error (5,p)
      | c::r'=>if c.toNat=92∨c.toNat=34 then (valR r' (p+2)).map fun q=>(c::q.1,q.2) else if c.toNat=110 then (valR r' (p+2)).map fun q=>(10::q.1,q.2) else .error (5,p)
    else (valR r (p+1)).map fun q=>(b::q.1,q.2)
theorem val_end (l:List UInt8) (i:Nat) (h:¬ i < l.length):valR (l.drop i) i=.error (5,i):=by
  rw [List.drop_eq_nil_of_le (by omega),valR]
theorem val_low (l:List UInt8) (i:Nat) (h:i < l.length) (h0:l[i].toNat≠34) (h1:l[i].toNat≠10) (h2:l[i].toNat≠92):valR (l.drop i) i=(valR (l.drop (i+1)) (i+1)).map fun q=>(l[i]::q.1,q.2):=by
  rw [List.drop_eq_getElem_cons h,valR.eq_def]
  simp only
  rw [if_neg h0,if_neg h1,if_neg h2]
theorem val_quote (l:List UInt8) (i:Nat) (h:i < l.length) (h0:l[i].toNat=34):valR (l.drop i) i=.ok ([],i+1):=by
  rw [List.drop_eq_getElem_cons h,valR.eq_def]
  simp only
  rw [if_pos h0]
theorem val_ten (l:List UInt8) (i:Nat) (h:i < l.length) (h1:l[i].toNat=10):valR (l.drop i) i=.error (5,i):=by
  rw [List.drop_eq_getElem_cons h,valR.eq_def]
  simp only
  rw [if_neg (by omega),if_pos h1]
theorem val_last (l:List UInt8) (i:Nat) (h:i < l.length) (h1:l[i].toNat=92) (h2:¬ i+1 < l.length):valR (l.drop i) i=.error (5,i):=by
  rw [List.drop_eq_getElem_cons h,valR.eq_def]
  simp only
  rw [if_neg (by omega),if_neg (by omega),if_pos h1,List.drop_eq_nil_of_le (by omega)]
theorem val_two (l:List UInt8) (i:Nat) (h:i+1 < l.length) (h1:l[i].toNat=92):valR (l.drop i) i=if l[i+1].toNat=92∨l[i+1].toNat=34 then (valR (l.drop (i+2)) (i+2)).map fun q=>(l[i+1]::q.1,q.2) else if l[i+1].toNat=110 then (valR (l.drop (i+2)) (i+2)).map fun q=>(10::q.1,q.2) else .error (5,i):=by
  rw [List.drop_eq_getElem_cons (by omega:i < l.length),valR.eq_def]
  simp only
  rw [if_neg (by omega),if_neg (by omega),if_pos h1,List.drop_eq_getElem_cons h]
theorem two_set {w:World} {g:Nat} {u v x y:Value} (z0:w.cell? ⟨g,0,none⟩=some u) (z1:w.cell? ⟨g,1,none⟩=some v) :
    ((w.setCell ⟨g,0,none⟩ x).setCell ⟨g,1,none⟩ y).cell? ⟨g,0,none⟩=some x∧((w.setCell ⟨g,0,none⟩ x).setCell ⟨g,1,none⟩ y).cell? ⟨g,1,none⟩=some y:=by
  constructor
  · rw [World.cell?_setCell_other _ ⟨g,1,none⟩ ⟨g,0,none⟩ _ (by intro h;cases h),World.cell?_setCell_same w _ _ z0]
  · have k:(w.setCell ⟨g,0,none⟩ x).cell? ⟨g,1,none⟩=some v:=by
      rw [World.cell?_setCell_other _ ⟨g,0,none⟩ ⟨g,1,none⟩ _ (by intro h;cases h)]
      exact z1
    exact World.cell?_setCell_same _ _ _ k
end Go.Proofs.YtibahfopmjiffaaGreatDoor.La
/- one, the document's. Own work of the verifier. -/
namespace Go.Proofs.YtibahfopmjiffaaGreatDoor.La
open Go.RowKit
def nmAt (l:List UInt8) (p:Nat):List UInt8:=(l.drop p).take (rowN false (l.drop p))
def oneR (l:List UInt8) (p:Nat) (L:List Lb):Except (Int × Nat) (Lb × Nat) :=
  if L.length=16 then .error (3,p)
  else if lnameB (nmAt l p)=false then .error (9,p)
  else if L.length≠0∧bhE (L.getD (L.length - 1) ([],[])).1 (nmAt l p)≠0 then .error (bhE (L.getD (L.length - 1) ([],[])).1 (nmAt l p),p)
  else if (l.getD (p+rowN false (l.drop p)) 0).toNat≠61 then .error (5,p+rowN false (l.drop p))
  else if (l.getD (p+rowN false (l.drop p)+1) 0).toNat≠34 then .error (5,p+rowN false (l.drop p)+1)
  else match valR (l.drop (p+rowN false (l.drop p)+2)) (p+rowN false (l.drop p)+2) with
    | .error e=>.error e
    | .ok q=>if txE q.1≠0 then .error (txE q.1,p+rowN false (l.drop p)+2) else .ok ((nmAt l p,q.1),q.2)
theorem load_label (g:Nat) (x y:ByteArray) (w:World) (c0:w.cell? ⟨g,0,none⟩=some (.string x)) (c1:w.cell? ⟨g,1,none⟩=some (.string y)):(loadVar 98 ⟨g,0,none⟩).run Tryz.prog w=.ok (.agg #[.string x,.string y]) w:=by
  simp [loadVar,go_sem,c0,c1]
end Go.Proofs.YtibahfopmjiffaaGreatDoor.La
