/- THE LEAVES of label: letters and rows, the document's. Own work of the verifier. -/
import Derived.Test.YtfkbjdgbpenflaaGreatDoorRows
import Derived.WalkKit
import Derived.WalkSpells
import Derived.RowKit3
import Derived.Below
import Derived.Laws.Externs
import Derived.Outline
import Derived.Deep.QuietTactic
import Derived.BigQuiet
import Derived.Laws.Bits64
import Derived.Laws.BitsAllLaws
import Derived.Laws.DeepStrings4
import Derived.Deep.DeepCutAuto
import Derived.Deep.RegionHeld3
import Derived.Deep.CutBlock
import Derived.Lib.Strings
import Derived.Sort.Walk0
import Derived.Maps.AppendAt
import Derived.Deep.AppendLies
import Derived.Laws.IdiomStrings
import Derived.OwnWalk
import Derived.Shelf.Strings.BuilderK
import Derived.Test.YtfkbjdgbpenflaaGreatDoorProg
import Derived.Test.YtfkbjdgbpenflaaGreatDoorShelf
set_option maxRecDepth 100000
set_option maxHeartbeats 2000000
namespace Go.Proofs.YtfkbjdgbpenflaaGreatDoor.La
open Go.RowKit
def isL (c:Nat):Bool:=decide (97≤c∧c≤122∨65≤c∧c≤90∨48≤c∧c≤57∨c=95)
def gd (colon:Bool) (c:Nat):Bool:=isL c || (colon && decide (c=58))
def rowN (colon:Bool):List UInt8→Nat
 | []=>0
 | b::r=>if gd colon b.toNat then rowN colon r+1 else 0
theorem rowN_le (colon:Bool):∀ l:List UInt8,rowN colon l≤l.length
 | []=>Nat.le_refl _
 | b::r=>by
  rw [rowN,List.length_cons]
  have:=rowN_le colon r
  split <;> omega
theorem drop_bytes (l:List UInt8) (k:Nat):(ByteArray.mk l.toArray).extract k l.length=⟨(l.drop k).toArray⟩:=by
 apply ByteArray.ext
 rw [ByteArray.data_extract]
 simp
 exact List.take_of_length_le (by simp)
theorem take_bytes (l:List UInt8) (k:Nat):(ByteArray.mk l.toArray).extract 0 k=⟨(l.take k).toArray⟩:=by
 apply ByteArray.ext
 rw [ByteArray.data_extract]
 simp
def endsB (l e:List UInt8):Bool:=decide (e.length≤l.length) && (l.drop (l.length - e.length) == e)
def plainB (colon:Bool) (l:List UInt8):Bool:=decide (1≤l.length) && decide (l.length≤64) && decide (rowN colon l=l.length) && !(decide (48≤(l.getD 0 0).toNat) && decide ((l.getD 0 0).toNat≤57))
theorem get_zero (l:List UInt8) (h:0 < l.length) (hB:0 < (ByteArray.mk l.toArray).size):((ByteArray.mk l.toArray)[0]'hB).toNat=(l.getD 0 0).toNat:=by
 rw [List.getD_eq_getElem?_getD,List.getElem?_eq_getElem h]
 rfl
def nameB (l:List UInt8):Bool:=plainB true l && !endsB l [95,98,117,99,107,101,116] && !endsB l [95,115,117,109] && !endsB l [95,99,111,117,110,116]
def lnameB (l:List UInt8):Bool:=plainB false l && !(l == [108,101]) && !(l == [113,117,97,110,116,105,108,101]) && !(decide (2≤l.length) && (l.take 2 == [95,95]))
def tlB (b:Nat):Bool:=decide (128≤b) && decide (b < 192)
def tlAt (l:List UInt8) (k:Nat):Bool:=decide (k < l.length) && tlB (l.getD k 0).toNat
theorem get_at (l:List UInt8) (k:Nat) (h:k < l.length):(l.getD k 0)=l[k]:=by
 rw [List.getD_eq_getElem?_getD,List.getElem?_eq_getElem h];rfl
def cont:Nat→Nat→List UInt8→Option Nat
 | 0,c,_=>some c
 | _+1,_,[]=>none
 | n+1,c,b::r=>if tlB b.toNat then cont n (64*c+b.toNat - 128) r else none
def lead (b:Nat):Option (Nat × Nat):=if 192≤b∧b < 224 then some (1,b - 192) else if 224≤b∧b < 240 then some (2,b - 224) else if 240≤b∧b < 248 then some (3,b - 240) else none
def fine (n c:Nat):Bool:=decide (¬ (n=1∧c < 128∨n=2∧c < 2048∨n=3∧c < 65536∨1114111 < c∨55296≤c∧c≤57343))
def utfB:List UInt8→Bool
 | []=>true
 | b::r=>if b.toNat < 128 then utfB r else
  match lead b.toNat with
  | none=>false
  | some (n,c0)=>match cont n c0 r with
   | none=>false
   | some c=>fine n c && utfB (r.drop n)
termination_by l=>l.length
decreasing_by
 ·simp
 ·simp;omega
theorem cont_step (l:List UInt8) (k m c:Nat):cont (m+1) c (l.drop k)=if tlAt l k then cont m (64*c+(l.getD k 0).toNat - 128) (l.drop (k+1)) else none:=by
 unfold tlAt
 rcases Nat.lt_or_ge k l.length with g | g
 ·rw [List.drop_eq_getElem_cons g,cont,decide_eq_true g,get_at l k g]
  rfl
 ·rw [List.drop_eq_nil_of_le g,cont,decide_eq_false (by omega)]
  rfl
theorem utf_low (l:List UInt8) (i:Nat) (h:i < l.length) (hb:l[i].toNat < 128):utfB (l.drop i)=utfB (l.drop (i+1)):=by
 rw [List.drop_eq_getElem_cons h,utfB,if_pos hb]
theorem utf_lead (l:List UInt8) (i n c0:Nat) (h:i < l.length) (hb:¬ l[i].toNat < 128) (hl:lead l[i].toNat=some (n,c0)) :
  utfB (l.drop i)=match cont n c0 (l.drop (i+1)) with
   | none=>false
   | some c=>fine n c && utfB (l.drop (i+(n+1))):=by
 rw [List.drop_eq_getElem_cons h,utfB,if_neg hb,hl]
 simp only
 cases cont n c0 (l.drop (i+1)) with
 | none=>rfl
 | some c =>
  simp only
  rw [List.drop_drop,show i+1+n=i+(n+1) from by omega]
theorem utf_none (l:List UInt8) (i:Nat) (h:i < l.length) (hb:¬ l[i].toNat < 128) (hl:lead l[i].toNat=none):utfB (l.drop i)=false:=by
 rw [List.drop_eq_getElem_cons h,utfB,if_neg hb,hl]
def txE (l:List UInt8):Int:=if 1024 < l.length then 4 else if utfB l then 0 else 11
def bltB (a b:List UInt8):Bool:=decide (a < b)
theorem less_list (a b:List UInt8):Op.bytesLess a b=bltB a b:=by
 unfold bltB
 rw [Proofs.bytesLess_eq]
def bhE (a b:List UInt8):Int:=if a=b then 10 else if bltB b a then 15 else 0
def ordE (a b:List UInt8):Int:=if bltB a b then -1 else if bltB b a then 1 else 0
theorem bel1 (w:World) (o1:Obj):Below w.heap.size w (w.alloc o1):=(Below.refl _ _).alloc (Nat.le_refl _) _
theorem cell_two_new (w:World) (x y:Value) (t:TypeId):∀ j u,[x,y][j]? =some u→(w.alloc (.cells #[x,y] t)).cell? ((⟨w.heap.size,0,none⟩:Addr).add j)=some u:=by
 intro j u hj
 match j,hj with
 | 0,hj=>simp at hj;subst hj;simp [go_sem]
 | 1,hj=>simp at hj;subst hj;simp [go_sem]
 | k+2,hj=>simp at hj
def esc1 (q:Bool) (b:UInt8):List UInt8:=if b.toNat=92∨q=true∧b.toNat=34 then [92,b] else if b.toNat=10 then [92,110] else [b]
def escL (q:Bool):List UInt8→List UInt8
 | []=>[]
 | b::r=>esc1 q b++escL q r
theorem escL_drop (q:Bool) (l:List UInt8) (i:Nat) (h:i < l.length):escL q (l.drop i)=esc1 q l[i]++escL q (l.drop (i+1)):=by
 rw [List.drop_eq_getElem_cons h,escL]
def unL:List UInt8→Option (List UInt8)
 | []=>some []
 | b::r=>if b.toNat=10 then none else if b.toNat=92 then
   match r with
   | []=>none
   | c::r'=>if c.toNat=92 then (unL r').map (92::·) else if c.toNat=110 then (unL r').map (10::·) else none
  else (unL r).map (b::·)
def TellsU (l:List UInt8) (e:Ending):Prop:=(∃ t,unL l=some t∧e=.returned (.tuple #[.string ⟨t.toArray⟩,.bool true]))∨(unL l=none∧e=.returned (.tuple #[.string ⟨#[]⟩,.bool false]))
abbrev Lb:Type:=List UInt8 × List UInt8
theorem lt_of_cell {w:World} {a:Addr} {v:Value} (h:w.cell? a=some v):a.block < w.heap.size:=by
 unfold World.cell? at h
 split at h
 ·rename_i h1
  rcases Nat.lt_or_ge a.block w.heap.size with k | k
  ·exact k
  ·rw [Array.getElem?_eq_none k] at h1;cases h1
 ·cases h
def RowL (W:World) (b o:Nat) (L:List Lb):Prop:=∀ i (h:i < L.length),W.cell? ⟨b,o+i*2,none⟩=some (.string ⟨L[i].1.toArray⟩)∧W.cell? ⟨b,o+i*2+1,none⟩=some (.string ⟨L[i].2.toArray⟩)
theorem RowL.below {W W1:World} {b o:Nat} {L:List Lb} (h:RowL W b o L) (hb:Below W.heap.size W W1):RowL W1 b o L:=fun i hi=>by
 obtain ⟨h1,h2⟩:=h i hi
 rw [hb.cell (p:=⟨b,o+i*2,none⟩) (lt_of_cell h1),hb.cell (p:=⟨b,o+i*2+1,none⟩) (lt_of_cell h2)]
 exact ⟨h1,h2⟩
theorem below_drewN (w:World) (n:Nat):Below w.heap.size w (w.drewN n):=by
 induction n with
 | zero=>exact Below.refl _ _
 | succ n ih=>exact ⟨ih.os,ih.tape,ih.output,ih.size,ih.block⟩
theorem RowL.drew {W:World} {b o:Nat} {L:List Lb} (h:RowL W b o L) (n:Nat):RowL (W.drewN n) b o L:=h.below (below_drewN W n)
theorem retB {A B:Bool} (h:A=B):Ending.returned (Value.bool A)=.returned (.bool B):=by rw [h]
theorem retI {k:IntKind} {A B:Int} (h:A=B):Ending.returned (Value.int k A)=.returned (.int k B):=by rw [h]
theorem samel_any (ao:Option Addr) (b o cap:Nat) (A:List Lb) (hao:A≠[]→ao=some ⟨b,o,none⟩) (ao':Option Addr) (b' o' cap':Nat) (C:List Lb) (hao':C≠[]→ao'=some ⟨b',o',none⟩) (hl:A.length≤9223372036854775807) (w:World) (hA:RowL w b o A) (hC:RowL w b' o' C) :
  Calls Tryz.prog 62 #[.slice ao A.length cap,.slice ao' C.length cap'] w fun e w'=>e=.returned (.bool (decide (A=C)))∧∃ n,w'=w.drewN n:=by
 by_cases hlen:A.length=C.length
 ·have ht:((A.length:Int) != (C.length:Int))=false:=by rw [bne_eq_false_iff_eq];omega
  have HL:Hid _:=hlen
  have HA:Hid _:=hA
  have HC:Hid _:=hC
  clear hlen hA hC
  go_enter Tryz.func62,Tryz.ntmps62
  go_wp2_with fail
  go_loopw [5] (fun c wr=>∃ i n:Nat,i≤A.length∧c=.int .i64 (i:Int)∧wr=w.drewN n∧Hid (A.take i=C.take i)) (fun c _=>A.length - (intOf c).toNat)
  case atStart=>exact ⟨0,0,by omega,rfl,rfl,by simp [Hid]⟩
  case round =>
   obtain ⟨i,n,hi,rfl,rfl,hE⟩:=hrel
   by_cases hlt:i < A.length
   ·have hlt2:i < C.length:=by have:=HL.out;omega
    obtain rfl:=hao (by intro e;rw [e] at hlt;simp at hlt)
    obtain rfl:=hao' (by intro e;rw [e] at hlt2;simp at hlt2)
    have hlt':(i:Int) < (A.length:Int):=by omega
    have hlt2':(i:Int) < (C.length:Int):=by omega
    obtain ⟨q1,q2⟩:=HA.out i hlt
    obtain ⟨q3,q4⟩:=HC.out i hlt2
    have HT1:Hid (A.take (i+1)=A.take i++[A[i]]):=List.take_succ_eq_append_getElem hlt
    have HT2:Hid (C.take (i+1)=C.take i++[C[i]]):=List.take_succ_eq_append_getElem hlt2
    have HN:Hid (A[i]≠C[i]→A≠C):=fun h e=>h (by subst e;rfl)
    obtain ⟨x,y,hxy⟩:∃ x y,A[i]=(x,y):=⟨_,_,rfl⟩
    obtain ⟨u,v,huv⟩:∃ u v,C[i]=(u,v):=⟨_,_,rfl⟩
    rw [hxy] at q1 q2 HT1 HN
    rw [huv] at q3 q4 HT2 HN
    clear hxy huv
    by_cases he:x=u∧y=v
    ·obtain ⟨rfl,rfl⟩:=he
     clear HN
     as_aux_lemma =>
      go_wp2_with fail
      go_region
      go_wp2_with fail
      exact ⟨⟨i+1,n+1,by omega,by go_num,rfl,by unfold Hid;rw [HT1.out,HT2.out,hE.out]⟩,by simp [intOf];omega⟩
    ·have hne:decide (A=C)=false:=decide_eq_false (HN.out (fun e=>he ⟨(Prod.mk.inj e).1,(Prod.mk.inj e).2⟩))
     have HNE:Hid _:=hne
     have hor:(x == u)=false∨(x=u∧(y == v)=false):=by
      by_cases h1:x=u
      ·right
       exact ⟨h1,by simpa using fun h2=>he ⟨h1,h2⟩⟩
      ·left
       simpa using h1
     clear he hne HN HT1 HT2 hE
     rcases hor with h1 | ⟨rfl,h1⟩
     ·as_aux_lemma =>
       go_wp2_with fail
       go_region
       go_wp2_with fail
       go_ret
       exact ⟨retB HNE.out.symm,n+1,rfl⟩
     ·as_aux_lemma =>
       go_wp2_with fail
       go_region
       go_wp2_with fail
       go_ret
       exact ⟨retB HNE.out.symm,n+1,rfl⟩
   ·obtain rfl:i=A.length:=by omega
    have hlt':¬ (A.length:Int) < (A.length:Int):=by omega
    have he:decide (A=C)=true:=by
     have:=hE.out
     rw [List.take_length,HL.out,List.take_length] at this
     exact decide_eq_true this
    have HE:Hid _:=he
    clear he
    as_aux_lemma =>
     go_wp2_with fail
     go_ret
     exact ⟨retB HE.out.symm,n,rfl⟩
 ·have ht:((A.length:Int) != (C.length:Int))=true:=by rw [bne_iff_ne];omega
  have he:decide (A=C)=false:=decide_eq_false (fun e=>hlen (by rw [e]))
  rw [he]
  clear he hlen hA hC
  as_aux_lemma =>
   go_enter Tryz.func62,Tryz.ntmps62
   go_wp2_with fail
   go_ret
   exact ⟨rfl,0,rfl⟩
structure Ds where
 kind:Int
 name:List UInt8
 help:List UInt8
 labels:List Lb
 deriving DecidableEq
structure DsAt (W:World) (d:Ds) (v:Value):Prop where
 ex:∃ (ao:Option Addr) (b o cap:Nat),v=.agg #[.int .i64 d.kind,.string ⟨d.name.toArray⟩,.string ⟨d.help.toArray⟩,.slice ao d.labels.length cap]∧(d.labels≠[]→ao=some ⟨b,o,none⟩)∧d.labels.length≤9223372036854775807∧RowL W b o d.labels
theorem bel2 (w:World) (o1 o2:Obj):Below w.heap.size w ((w.alloc o1).alloc o2) :=
 ((Below.refl _ _).alloc (Nat.le_refl _) _).alloc (by simp) _
theorem dsame_any (d e:Ds) (v u:Value) (w:World) (hd:DsAt w d v) (he:DsAt w e u) :
  Calls Tryz.prog 34 #[v,u] w fun r w'=>r=.returned (.bool (decide (d=e)))∧Below w.heap.size w w':=by
 obtain ⟨ao,b,o,cap,rfl,h1,h2,h3⟩:=hd.ex
 obtain ⟨ao',b',o',cap',rfl,k1,k2,k3⟩:=he.ex
 obtain ⟨kd,n,h,L⟩:=d
 obtain ⟨kd',n',h',L'⟩:=e
 have HSL:Hid (∀ W,Below w.heap.size w W→Calls Tryz.prog 62 #[.slice ao L.length cap,.slice ao' L'.length cap'] W fun e w'=>e=.returned (.bool (decide (L=L')))∧∃ n,w'=W.drewN n):=fun W hb=>samel_any ao b o cap L h1 ao' b' o' cap' L' k1 h2 W (h3.below hb) (k3.below hb)
 clear h1 h2 h3 k1 k2 k3 hd he
 by_cases g1:kd=kd'
 ·subst g1
  by_cases g2:n=n'
  ·subst g2
   by_cases g3:h=h'
   ·subst g3
    have hE:decide ((⟨kd,n,h,L⟩:Ds)=⟨kd,n,h,L'⟩)=decide (L=L'):=decide_eq_decide.2 ⟨fun e=>(Ds.mk.inj e).2.2.2,fun e=>by rw [e]⟩
    have HE:Hid _:=hE
    clear hE
    as_aux_lemma =>
     go_enter Tryz.func34,Tryz.ntmps34
     go_wp2_with fail
     refine (HSL.out _ (bel2 w _ _)).mono ?_
     rintro r w1 ⟨rfl,m,rfl⟩
     go_wp2_with fail
     go_ret
     exact ⟨retB HE.out.symm,(bel2 w _ _).trans ((below_drewN _ m).mono (bel2 w _ _).size)⟩
   ·have g3':(h == h')=false:=by simpa using g3
    rw [show decide ((⟨kd,n,h,L⟩:Ds)=⟨kd,n,h',L'⟩)=false from decide_eq_false (fun e=>g3 (Ds.mk.inj e).2.2.1)]
    clear g3
    as_aux_lemma =>
     go_enter Tryz.func34,Tryz.ntmps34
     go_wp2_with fail
     go_ret
     exact ⟨rfl,bel2 w _ _⟩
  ·have g2':(n == n')=false:=by simpa using g2
   rw [show decide ((⟨kd,n,h,L⟩:Ds)=⟨kd,n',h',L'⟩)=false from decide_eq_false (fun e=>g2 (Ds.mk.inj e).2.1)]
   clear g2
   as_aux_lemma =>
    go_enter Tryz.func34,Tryz.ntmps34
    go_wp2_with fail
    go_ret
    exact ⟨rfl,bel2 w _ _⟩
 ·have g1':(kd == kd')=false:=by simpa using g1
  rw [show decide ((⟨kd,n,h,L⟩:Ds)=⟨kd',n',h',L'⟩)=false from decide_eq_false (fun e=>g1 (Ds.mk.inj e).1)]
  clear g1
  as_aux_lemma =>
   go_enter Tryz.func34,Tryz.ntmps34
   go_wp2_with fail
   go_ret
   exact ⟨rfl,bel2 w _ _⟩
def ordL:List Lb→List Lb→Int
 | [],[]=>0
 | [],_::_=>-1
 | _::_,[]=>1
 | a::A,b::B=>if ordE a.1 b.1≠0 then ordE a.1 b.1 else if ordE a.2 b.2≠0 then ordE a.2 b.2 else ordL A B
def ordD (d e:Ds):Int:=if ordE d.name e.name≠0 then ordE d.name e.name else ordL d.labels e.labels
def chkL:List Lb→Option (List UInt8)→Int
 | [],_=>0
 | a::r,p=>if lnameB a.1=false then 9 else if txE a.2≠0 then txE a.2 else
  match p with
  | none=>chkL r (some a.1)
  | some q=>if bhE q a.1≠0 then bhE q a.1 else chkL r (some a.1)
def chkD (d:Ds):Int:=if d.kind < 1∨3 < d.kind then 7 else if nameB d.name=false then 9 else if txE d.help≠0 then txE d.help else if 16 < d.labels.length then 3 else chkL d.labels none
def prv (A:List Lb) (i:Nat):Option (List UInt8):=if i=0 then none else (A[i - 1]?).map (·.1)
theorem prv_succ (A:List Lb) (i:Nat) (h:i < A.length):prv A (i+1)=some A[i].1:=by
 unfold prv
 rw [if_neg (by omega),Nat.add_sub_cancel,List.getElem?_eq_getElem h]
 rfl
theorem chkL_drop (A:List Lb) (i:Nat) (p:Option (List UInt8)) (h:i < A.length):chkL (A.drop i) p=if lnameB A[i].1=false then 9 else if txE A[i].2≠0 then txE A[i].2 else
  match p with
  | none=>chkL (A.drop (i+1)) (some A[i].1)
  | some q=>if bhE q A[i].1≠0 then bhE q A[i].1 else chkL (A.drop (i+1)) (some A[i].1):=by
 rw [List.drop_eq_getElem_cons h]
 cases p <;> simp only [chkL]
def DsS (d:Ds):Prop:=d.name.length≤4611686018427387904∧d.help.length≤4611686018427387904∧∀ a ∈ d.labels,a.1.length≤4611686018427387904∧a.2.length≤4611686018427387904
theorem bel_drewN {B:Nat} {a w:World} (h:Below B a w) (n:Nat):Below B a (w.drewN n):=by
 induction n with
 | zero=>exact h
 | succ n ih=>exact ⟨ih.os,ih.tape,ih.output,ih.size,ih.block⟩
structure KH (w:World) (ao:Option Addr) (b o cap:Nat) (A:List Lb) (W:World):Prop where
 f:W.cell? ⟨w.heap.size,3,none⟩=some (.slice ao A.length cap)
 r:RowL W b o A
 bl:Below w.heap.size w W
theorem KH.below {w W W1:World} {ao:Option Addr} {b o cap:Nat} {A:List Lb} (h:KH w ao b o cap A W) (hb:Below W.heap.size W W1):KH w ao b o cap A W1 :=
 ⟨by rw [hb.cell (p:=⟨w.heap.size,3,none⟩) (lt_of_cell h.f)];exact h.f,h.r.below hb,h.bl.trans (hb.mono h.bl.size)⟩
theorem bel_drew {B:Nat} {a w:World} (h:Below B a w):Below B a w.drew:=⟨h.os,h.tape,h.output,h.size,h.block⟩
theorem sizeL (W:World):(sizeOf 85).run Tryz.prog W=.ok 2 W:=by simp [sizeOf];rfl
theorem index_lab (b o len cap j:Nat) (z:Int) (hz:z=(j:Int)) (hj:j < len) (W:World) :
  (Instr.indexAt 39 (.slice (some ⟨b,o,none⟩) len cap) (.int .i64 z)).run Tryz.prog W=.ok (.pointer (some ⟨b,o+j*2,none⟩)) W:=by
 subst hz
 have he:Tryz.prog.elem 39=85:=by simp [Program.elem,Tryz.underlying39]
 rw [run_indexAt_slice W 39 ⟨b,o,none⟩ len cap .i64 (j:Int) (by rw [he];exact Tryz.underlying39),if_pos (by omega),he,sizeL]
 simp [Addr.add]
def lbT (a:Lb):List UInt8:=a.1++[61,34]++escL true a.2++[34]
def prB:Bool→List Lb→List UInt8
 | _,[]=>[]
 | f,a::r=>(if f then 123 else 44)::(lbT a++prB false r)
def printT (n:List UInt8) (L:List Lb):List UInt8:=n++prB true L++(if L.length=0 then [] else [125])
theorem prB_drop (f:Bool) (L:List Lb) (i:Nat) (h:i < L.length):prB f (L.drop i)=(if f then 123 else 44)::(lbT L[i]++prB false (L.drop (i+1))):=by
 rw [List.drop_eq_getElem_cons h,prB]
theorem sadd (a b:List UInt8) (h:a.length+b.length≤9223372036854775807) (W:World):(Op.stringOp .add ⟨a.toArray⟩ ⟨b.toArray⟩).run Tryz.prog W=.ok (.string ⟨(a++b).toArray⟩) W:=by
 rw [run_string_add_sum W _ _ (by simp [ByteArray.size];omega),ByteArray.mk_append_mk]
def isD (c:Nat):Bool:=decide (48≤c∧c≤57)
def isA (c:Nat):Bool:=decide (97≤c∧c≤122∨65≤c∧c≤90)
theorem isL_eq (c:Nat):isL c=(isA c || isD c || decide (c=95)):=by
 unfold isL isA isD
 rw [Bool.eq_iff_iff]
 simp only [Bool.or_eq_true,decide_eq_true_eq]
 omega
theorem cdigit_any (c:Nat) (w:World) :
  Calls Tryz.prog 101 #[.int .u8 (c:Int)] w fun e w'=>e=.returned (.bool (isD c))∧w'=w:=by
 by_cases a1:48≤c
 ·have i1:(48:Int)≤(c:Int):=by omega
  by_cases a2:c≤57
  ·have i2:(c:Int)≤57:=by omega
   rw [show isD c=true from decide_eq_true (by omega)]
   as_aux_lemma =>
    go_enter Tryz.func101,Tryz.ntmps101
    go_wp2_with fail
    go_ret
    exact ⟨rfl,rfl⟩
  ·have i2:¬ (c:Int)≤57:=by omega
   rw [show isD c=false from decide_eq_false (by omega)]
   as_aux_lemma =>
    go_enter Tryz.func101,Tryz.ntmps101
    go_wp2_with fail
    go_ret
    exact ⟨rfl,rfl⟩
 ·have i1:¬ (48:Int)≤(c:Int):=by omega
  rw [show isD c=false from decide_eq_false (by omega)]
  as_aux_lemma =>
   go_enter Tryz.func101,Tryz.ntmps101
   go_wp2_with fail
   go_ret
   exact ⟨rfl,rfl⟩
theorem cletter_any (c:Nat) (w:World) :
  Calls Tryz.prog 138 #[.int .u8 (c:Int)] w fun e w'=>e=.returned (.bool (isA c))∧w'=w:=by
 by_cases a1:97≤c
 ·have i1:(97:Int)≤(c:Int):=by omega
  by_cases a2:c≤122
  ·have i2:(c:Int)≤122:=by omega
   rw [show isA c=true from decide_eq_true (by omega)]
   as_aux_lemma =>
    go_enter Tryz.func138,Tryz.ntmps138
    go_wp2_with fail
    go_ret
    exact ⟨rfl,rfl⟩
  ·have i2:¬ (c:Int)≤122:=by omega
   have i3:(65:Int)≤(c:Int):=by omega
   have i4:¬ (c:Int)≤90:=by omega
   rw [show isA c=false from decide_eq_false (by omega)]
   as_aux_lemma =>
    go_enter Tryz.func138,Tryz.ntmps138
    go_wp2_with fail
    go_ret
    exact ⟨rfl,rfl⟩
 ·have i1:¬ (97:Int)≤(c:Int):=by omega
  by_cases a3:65≤c
  ·have i3:(65:Int)≤(c:Int):=by omega
   by_cases a4:c≤90
   ·have i4:(c:Int)≤90:=by omega
    rw [show isA c=true from decide_eq_true (by omega)]
    as_aux_lemma =>
     go_enter Tryz.func138,Tryz.ntmps138
     go_wp2_with fail
     go_ret
     exact ⟨rfl,rfl⟩
   ·have i4:¬ (c:Int)≤90:=by omega
    rw [show isA c=false from decide_eq_false (by omega)]
    as_aux_lemma =>
     go_enter Tryz.func138,Tryz.ntmps138
     go_wp2_with fail
     go_ret
     exact ⟨rfl,rfl⟩
  ·have i3:¬ (65:Int)≤(c:Int):=by omega
   rw [show isA c=false from decide_eq_false (by omega)]
   as_aux_lemma =>
    go_enter Tryz.func138,Tryz.ntmps138
    go_wp2_with fail
    go_ret
    exact ⟨rfl,rfl⟩
theorem oflab_any (c:Nat) (w:World) :
  Calls Tryz.prog 103 #[.int .u8 (c:Int)] w fun e w'=>e=.returned (.bool (gd false c))∧w'=w:=by
 have HA:Hid _:=fun W=>cletter_any c W
 have HD:Hid _:=fun W=>cdigit_any c W
 have h0:gd false c=isL c:=by simp [gd]
 rw [h0,isL_eq]
 clear h0
 cases hA:isA c
 ·rw [hA] at HA
  cases hD:isD c
  ·rw [hD] at HD
   by_cases h95:c=95
   ·have t:((c:Int) == 95)=true:=by rw [beq_iff_eq];omega
    rw [show decide (c=95)=true from decide_eq_true h95]
    clear h95
    as_aux_lemma =>
     go_enter Tryz.func103,Tryz.ntmps103
     go_wp2_with (first | (go_at_call 138;refine (HA.out _).mono ?_;rintro e1 w1 ⟨rfl,rfl⟩) | (go_at_call 101;refine (HD.out _).mono ?_;rintro e1 w1 ⟨rfl,rfl⟩))
     go_ret
     exact ⟨rfl,rfl⟩
   ·have t:((c:Int) == 95)=false:=by rw [beq_eq_false_iff_ne];omega
    rw [show decide (c=95)=false from decide_eq_false h95]
    clear h95
    as_aux_lemma =>
     go_enter Tryz.func103,Tryz.ntmps103
     go_wp2_with (first | (go_at_call 138;refine (HA.out _).mono ?_;rintro e1 w1 ⟨rfl,rfl⟩) | (go_at_call 101;refine (HD.out _).mono ?_;rintro e1 w1 ⟨rfl,rfl⟩))
     go_ret
     exact ⟨rfl,rfl⟩
  ·rw [hD] at HD
   as_aux_lemma =>
    go_enter Tryz.func103,Tryz.ntmps103
    go_wp2_with (first | (go_at_call 138;refine (HA.out _).mono ?_;rintro e1 w1 ⟨rfl,rfl⟩) | (go_at_call 101;refine (HD.out _).mono ?_;rintro e1 w1 ⟨rfl,rfl⟩))
    go_ret
    exact ⟨by simp,rfl⟩
 ·rw [hA] at HA
  as_aux_lemma =>
   go_enter Tryz.func103,Tryz.ntmps103
   go_wp2_with (first | (go_at_call 138;refine (HA.out _).mono ?_;rintro e1 w1 ⟨rfl,rfl⟩) | (go_at_call 101;refine (HD.out _).mono ?_;rintro e1 w1 ⟨rfl,rfl⟩))
   go_ret
   exact ⟨by simp,rfl⟩
theorem ofname_any (c:Nat) (w:World) :
  Calls Tryz.prog 66 #[.int .u8 (c:Int)] w fun e w'=>e=.returned (.bool (gd true c))∧w'=w:=by
 have HA:Hid _:=fun W=>oflab_any c W
 have h0:gd true c=(gd false c || decide (c=58)):=by simp [gd]
 rw [h0]
 clear h0
 cases hA:gd false c
 ·rw [hA] at HA
  by_cases h58:c=58
  ·have t:((c:Int) == 58)=true:=by rw [beq_iff_eq];omega
   rw [show decide (c=58)=true from decide_eq_true h58]
   clear h58
   as_aux_lemma =>
    go_enter Tryz.func66,Tryz.ntmps66
    go_wp2_with (go_at_call 103;refine (HA.out _).mono ?_;rintro e1 w1 ⟨rfl,rfl⟩)
    go_ret
    exact ⟨rfl,rfl⟩
  ·have t:((c:Int) == 58)=false:=by rw [beq_eq_false_iff_ne];omega
   rw [show decide (c=58)=false from decide_eq_false h58]
   clear h58
   as_aux_lemma =>
    go_enter Tryz.func66,Tryz.ntmps66
    go_wp2_with (go_at_call 103;refine (HA.out _).mono ?_;rintro e1 w1 ⟨rfl,rfl⟩)
    go_ret
    exact ⟨rfl,rfl⟩
 ·rw [hA] at HA
  as_aux_lemma =>
   go_enter Tryz.func66,Tryz.ntmps66
   go_wp2_with (go_at_call 103;refine (HA.out _).mono ?_;rintro e1 w1 ⟨rfl,rfl⟩)
   go_ret
   exact ⟨by simp,rfl⟩
def fv:Bool→Value
 | true=>.func (.func 66) #[] #[]
 | false=>.func (.func 103) #[] #[]
theorem crow_false (l:List UInt8) (hl:l.length≤4611686018427387904) (w:World) :
  Calls Tryz.prog 102 #[.string ⟨l.toArray⟩,fv false] w fun e w'=>e=.returned (.string ⟨(l.take (rowN false l)).toArray⟩)∧w'=w:=by
 have HL:Hid (∀ (c:Nat) (W:World),Calls Tryz.prog 103 #[.int .u8 (c:Int)] W fun e w'=>e=.returned (.bool (gd false c))∧w'=W):=fun c W=>oflab_any c W
 obtain ⟨R,hR⟩:∃ R,R=rowN false l:=⟨_,rfl⟩
 rw [← hR]
 have HR0:Hid (R=0+rowN false (l.drop 0)):=by show R=_;rw [hR,List.drop_zero,Nat.zero_add]
 clear hR
 unfold fv
 go_enter Tryz.func102,Tryz.ntmps102
 go_wp2_with fail
 go_loopw [5] (fun a W=>∃ n:Nat,n≤l.length∧a=.int .i64 (n:Int)∧Hid (R=n+rowN false (l.drop n))∧W=w) (fun a _=>l.length - (intOf a).toNat)
 case atStart=>exact ⟨0,by omega,rfl,HR0,rfl⟩
 case round =>
  obtain ⟨n,hn,rfl,HR,hw⟩:=hrel
  subst wr
  clear HR0
  have hS:=HR.out
  clear HR
  have htk:=take_bytes l n
  by_cases hlt:n < l.length
  ·have hlt':(n:Int) < (l.length:Int):=by omega
   have hB:n < (ByteArray.mk l.toArray).size:=by show n < l.toArray.size;simpa using hlt
   have hbe:((ByteArray.mk l.toArray)[n]'hB).toNat=l[n].toNat:=rfl
   rw [List.drop_eq_getElem_cons hlt,rowN] at hS
   have HL1:Hid _:=HL.out ((ByteArray.mk l.toArray)[n]'hB).toNat
   rw [hbe] at HL1
   by_cases g1:gd false l[n].toNat=true
   ·rw [g1] at HL1
    rw [if_pos g1] at hS
    have HR':Hid (R=n+1+rowN false (l.drop (n+1))):=by show R=_;rw [hS];omega
    clear hS g1 hbe HL htk
    as_aux_lemma =>
     go_wp2_with fail
     refine (HL1.out _).mono ?_
     rintro e w1 ⟨rfl,rfl⟩
     go_wp2_with fail
     exact ⟨⟨n+1,by omega,by go_num,HR',trivial⟩,by simp [intOf];omega⟩
   ·have g1':gd false l[n].toNat=false:=by simpa using g1
    rw [g1'] at HL1
    rw [if_neg g1] at hS
    have HF:Hid (R=n):=hS
    clear hS g1 g1' hbe HL
    as_aux_lemma =>
     go_wp2_with fail
     refine (HL1.out _).mono ?_
     rintro e w1 ⟨rfl,rfl⟩
     go_wp2_with fail
     go_ret
     exact ⟨congrArg (fun z:Nat=>Ending.returned (Value.string ⟨(l.take z).toArray⟩)) HF.out.symm,rfl⟩
  ·have hlt':¬ (n:Int) < (l.length:Int):=by omega
   rw [List.drop_eq_nil_of_le (by omega),rowN] at hS
   have HF:Hid (R=n):=hS
   clear hS HL
   as_aux_lemma =>
    go_wp2_with fail
    go_ret
    exact ⟨congrArg (fun z:Nat=>Ending.returned (Value.string ⟨(l.take z).toArray⟩)) HF.out.symm,rfl⟩
theorem crow_true (l:List UInt8) (hl:l.length≤4611686018427387904) (w:World) :
  Calls Tryz.prog 102 #[.string ⟨l.toArray⟩,fv true] w fun e w'=>e=.returned (.string ⟨(l.take (rowN true l)).toArray⟩)∧w'=w:=by
 have HL:Hid (∀ (c:Nat) (W:World),Calls Tryz.prog 66 #[.int .u8 (c:Int)] W fun e w'=>e=.returned (.bool (gd true c))∧w'=W):=fun c W=>ofname_any c W
 obtain ⟨R,hR⟩:∃ R,R=rowN true l:=⟨_,rfl⟩
 rw [← hR]
 have HR0:Hid (R=0+rowN true (l.drop 0)):=by show R=_;rw [hR,List.drop_zero,Nat.zero_add]
 clear hR
 unfold fv
 go_enter Tryz.func102,Tryz.ntmps102
 go_wp2_with fail
 go_loopw [5] (fun a W=>∃ n:Nat,n≤l.length∧a=.int .i64 (n:Int)∧Hid (R=n+rowN true (l.drop n))∧W=w) (fun a _=>l.length - (intOf a).toNat)
 case atStart=>exact ⟨0,by omega,rfl,HR0,rfl⟩
 case round =>
  obtain ⟨n,hn,rfl,HR,hw⟩:=hrel
  subst wr
  clear HR0
  have hS:=HR.out
  clear HR
  have htk:=take_bytes l n
  by_cases hlt:n < l.length
  ·have hlt':(n:Int) < (l.length:Int):=by omega
   have hB:n < (ByteArray.mk l.toArray).size:=by show n < l.toArray.size;simpa using hlt
   have hbe:((ByteArray.mk l.toArray)[n]'hB).toNat=l[n].toNat:=rfl
   rw [List.drop_eq_getElem_cons hlt,rowN] at hS
   have HL1:Hid _:=HL.out ((ByteArray.mk l.toArray)[n]'hB).toNat
   rw [hbe] at HL1
   by_cases g1:gd true l[n].toNat=true
   ·rw [g1] at HL1
    rw [if_pos g1] at hS
    have HR':Hid (R=n+1+rowN true (l.drop (n+1))):=by show R=_;rw [hS];omega
    clear hS g1 hbe HL htk
    as_aux_lemma =>
     go_wp2_with fail
     refine (HL1.out _).mono ?_
     rintro e w1 ⟨rfl,rfl⟩
     go_wp2_with fail
     exact ⟨⟨n+1,by omega,by go_num,HR',trivial⟩,by simp [intOf];omega⟩
   ·have g1':gd true l[n].toNat=false:=by simpa using g1
    rw [g1'] at HL1
    rw [if_neg g1] at hS
    have HF:Hid (R=n):=hS
    clear hS g1 g1' hbe HL
    as_aux_lemma =>
     go_wp2_with fail
     refine (HL1.out _).mono ?_
     rintro e w1 ⟨rfl,rfl⟩
     go_wp2_with fail
     go_ret
     exact ⟨congrArg (fun z:Nat=>Ending.returned (Value.string ⟨(l.take z).toArray⟩)) HF.out.symm,rfl⟩
  ·have hlt':¬ (n:Int) < (l.length:Int):=by omega
   rw [List.drop_eq_nil_of_le (by omega),rowN] at hS
   have HF:Hid (R=n):=hS
   clear hS HL
   as_aux_lemma =>
    go_wp2_with fail
    go_ret
    exact ⟨congrArg (fun z:Nat=>Ending.returned (Value.string ⟨(l.take z).toArray⟩)) HF.out.symm,rfl⟩
theorem crow_any (l:List UInt8) (colon:Bool) (hl:l.length≤4611686018427387904) (w:World) :
  Calls Tryz.prog 102 #[.string ⟨l.toArray⟩,fv colon] w fun e w'=>e=.returned (.string ⟨(l.take (rowN colon l)).toArray⟩)∧w'=w:=by
 cases colon
 ·exact crow_false l hl w
 ·exact crow_true l hl w
theorem take_eq (l:List UInt8) (n:Nat) (h:n≤l.length):l.take n=l ↔ n=l.length:=by
 constructor
 ·intro e
  have:=congrArg List.length e
  rw [List.length_take] at this
  omega
 ·intro e
  rw [e,List.take_length]
theorem word_any (l:List UInt8) (colon:Bool) (hl:l.length≤4611686018427387904) (w:World) :
  Calls Tryz.prog 65 #[.string ⟨l.toArray⟩,fv colon] w fun r w'=>r=.returned (.bool (plainB colon l))∧w'=w:=by
 have HR:Hid _:=fun W=>crow_any l colon hl W
 obtain ⟨f,hf⟩:∃ f,f=fv colon:=⟨_,rfl⟩
 rw [← hf] at HR ⊢
 clear hf
 by_cases g0:1≤l.length
 ·have i0:(1:Int)≤(l.length:Int):=by omega
  have hB:0 < (ByteArray.mk l.toArray).size:=by show 0 < l.toArray.size;rw [List.size_toArray];omega
  have hbe:=get_zero l g0 hB
  by_cases g1:l.length≤64
  ·have i1:(l.length:Int)≤64:=by omega
   have HD:Hid _:=fun W=>cdigit_any ((ByteArray.mk l.toArray)[0]'hB).toNat W
   cases hD:isD ((ByteArray.mk l.toArray)[0]'hB).toNat
   ·rw [hD] at HD
    have hd':(decide (48≤(l.getD 0 0).toNat) && decide ((l.getD 0 0).toNat≤57))=false:=by rw [← hbe,← Bool.decide_and];exact hD
    by_cases g2:rowN colon l=l.length
    ·rw [(take_eq l _ (rowN_le colon l)).2 g2] at HR
     rw [show plainB colon l=true from by unfold plainB;rw [hd',decide_eq_true g0,decide_eq_true g1,decide_eq_true g2];rfl]
     clear hd' g2 hD hbe
     as_aux_lemma =>
      go_enter Tryz.func65,Tryz.ntmps65
      go_wp2_with (first | (go_at_call 101;refine (HD.out _).mono ?_;rintro e1 w1 ⟨rfl,rfl⟩) | (go_at_call 102;refine (HR.out _).mono ?_;rintro e1 w1 ⟨rfl,rfl⟩))
      go_ret
      exact ⟨rfl,rfl⟩
    ·have hq:(l.take (rowN colon l) == l)=false:=by rw [beq_eq_false_iff_ne];exact fun h=>g2 ((take_eq l _ (rowN_le colon l)).1 h)
     rw [show plainB colon l=false from by unfold plainB;rw [decide_eq_false g2];simp]
     obtain ⟨t,ht⟩:∃ t,t=l.take (rowN colon l):=⟨_,rfl⟩
     rw [← ht] at HR hq
     clear hd' g2 hD hbe ht
     as_aux_lemma =>
      go_enter Tryz.func65,Tryz.ntmps65
      go_wp2_with (first | (go_at_call 101;refine (HD.out _).mono ?_;rintro e1 w1 ⟨rfl,rfl⟩) | (go_at_call 102;refine (HR.out _).mono ?_;rintro e1 w1 ⟨rfl,rfl⟩))
      go_ret
      exact ⟨rfl,rfl⟩
   ·rw [hD] at HD
    have hd':(decide (48≤(l.getD 0 0).toNat) && decide ((l.getD 0 0).toNat≤57))=true:=by rw [← hbe,← Bool.decide_and];exact hD
    rw [show plainB colon l=false from by unfold plainB;rw [hd'];simp]
    clear hd' hD hbe
    as_aux_lemma =>
     go_enter Tryz.func65,Tryz.ntmps65
     go_wp2_with (first | (go_at_call 101;refine (HD.out _).mono ?_;rintro e1 w1 ⟨rfl,rfl⟩) | (go_at_call 102;refine (HR.out _).mono ?_;rintro e1 w1 ⟨rfl,rfl⟩))
     go_ret
     exact ⟨rfl,rfl⟩
  ·have i1:¬ (l.length:Int)≤64:=by omega
   rw [show plainB colon l=false from by unfold plainB;rw [decide_eq_false g1];simp]
   as_aux_lemma =>
    go_enter Tryz.func65,Tryz.ntmps65
    go_wp2_with fail
    go_ret
    exact ⟨rfl,rfl⟩
 ·have i0:¬ (1:Int)≤(l.length:Int):=by omega
  rw [show plainB colon l=false from by unfold plainB;rw [decide_eq_false g0];simp]
  as_aux_lemma =>
   go_enter Tryz.func65,Tryz.ntmps65
   go_wp2_with fail
   go_ret
   exact ⟨rfl,rfl⟩
end Go.Proofs.YtfkbjdgbpenflaaGreatDoor.La
namespace Go.Proofs
open Go.Shelf
def Tryz.wr_ren:Go.Shelf.Ren:=⟨fun | 166=>128 | 167=>130 | 240=>157 | 276=>184 | n=>n,fun | 70=>122 | 72=>124 | 37=>30 | 75=>158 | 80=>72 | 164=>201 | n=>n,fun | n=>n⟩
theorem Tryz.wlays166:Go.Proofs.Lays.n166 Tryz.prog Tryz.wr_ren:={
 mixed:=by kernel_rfl
 f166:=Tryz.func128.trans (congrArg some (by kernel_rfl))
 f240:=Tryz.func157.trans (congrArg some (by kernel_rfl))
 f276:=Tryz.func184.trans (congrArg some (by kernel_rfl))
 t0:=Tryz.underlying0
 a0:=Tryz.isAgg0
 z0:=Tryz.sizeOf0
 v0:=Tryz.zeroValue0
 t3:=Tryz.underlying3
 a3:=Tryz.isAgg3
 z3:=Tryz.sizeOf3
 v3:=Tryz.zeroValue3
 t4:=Tryz.underlying4
 a4:=Tryz.isAgg4
 z4:=Tryz.sizeOf4
 v4:=Tryz.zeroValue4
 t9:=Tryz.underlying9
 a9:=Tryz.isAgg9
 z9:=Tryz.sizeOf9
 v9:=Tryz.zeroValue9
 t20:=Tryz.underlying20
 a20:=Tryz.isAgg20
 z20:=Tryz.sizeOf20
 v20:=Tryz.zeroValue20
 t37:=Tryz.underlying30
 a37:=Tryz.isAgg30
 z37:=Tryz.sizeOf30
 v37:=Tryz.zeroValue30
 t70:=Tryz.underlying122
 a70:=Tryz.isAgg122
 z70:=Tryz.sizeOf122
 v70:=Tryz.zeroValue122
 t72:=Tryz.underlying124
 a72:=Tryz.isAgg124
 z72:=Tryz.sizeOf124
 v72:=Tryz.zeroValue124
 t75:=Tryz.underlying158
 a75:=Tryz.isAgg158
 z75:=Tryz.sizeOf158
 v75:=Tryz.zeroValue158
 t164:=Tryz.underlying201
 a164:=Tryz.isAgg201
 z164:=Tryz.sizeOf201
 v164:=Tryz.zeroValue201 }
theorem Tryz.wlays167:Go.Proofs.Lays.n167 Tryz.prog Tryz.wr_ren:={
 mixed:=by kernel_rfl
 f167:=Tryz.func130.trans (congrArg some (by kernel_rfl))
 f240:=Tryz.func157.trans (congrArg some (by kernel_rfl))
 f276:=Tryz.func184.trans (congrArg some (by kernel_rfl))
 t0:=Tryz.underlying0
 a0:=Tryz.isAgg0
 z0:=Tryz.sizeOf0
 v0:=Tryz.zeroValue0
 t4:=Tryz.underlying4
 a4:=Tryz.isAgg4
 z4:=Tryz.sizeOf4
 v4:=Tryz.zeroValue4
 t5:=Tryz.underlying5
 a5:=Tryz.isAgg5
 z5:=Tryz.sizeOf5
 v5:=Tryz.zeroValue5
 t9:=Tryz.underlying9
 a9:=Tryz.isAgg9
 z9:=Tryz.sizeOf9
 v9:=Tryz.zeroValue9
 t20:=Tryz.underlying20
 a20:=Tryz.isAgg20
 z20:=Tryz.sizeOf20
 v20:=Tryz.zeroValue20
 t37:=Tryz.underlying30
 a37:=Tryz.isAgg30
 z37:=Tryz.sizeOf30
 v37:=Tryz.zeroValue30
 t70:=Tryz.underlying122
 a70:=Tryz.isAgg122
 z70:=Tryz.sizeOf122
 v70:=Tryz.zeroValue122
 t72:=Tryz.underlying124
 a72:=Tryz.isAgg124
 z72:=Tryz.sizeOf124
 v72:=Tryz.zeroValue124
 t75:=Tryz.underlying158
 a75:=Tryz.isAgg158
 z75:=Tryz.sizeOf158
 v75:=Tryz.zeroValue158
 t164:=Tryz.underlying201
 a164:=Tryz.isAgg201
 z164:=Tryz.sizeOf201
 v164:=Tryz.zeroValue201 }
theorem Tryz.wextra:Builder.Extra Tryz.prog Tryz.wr_ren:={
 sizeBuilder:=by kernel_rfl
 liesBuilder:=by kernel_rfl
 t5:=Tryz.underlying5
 a5:=Tryz.isAgg5
 z5:=Tryz.sizeOf5
 v5:=Tryz.zeroValue5
 infoByte:=by kernel_rfl
 cellsByte:=by kernel_rfl
 sizeByte:=by kernel_rfl
 neB5:=by decide }
open Go.RowKit in
theorem Tryz.wbyte (B b:Nat) (bs:List Value) (c:Int) (w:World) (h:Lib.IsBuilderF 124 5 B b bs w) (hlen:bs.length+1≤140737488355328) (hBw:B≤w.heap.size) :
  Calls Tryz.prog 130 #[.pointer (some ⟨b,0,none⟩),.int .u8 c] w fun e w'=>e=.returned .nilIface∧(Lib.BuilderAtF 124 5 B b (.pointer (some ⟨b,0,none⟩)) (bs++[.int .u8 c]) w'∧Below B w w'∧Lib.OthersKept 5 (some b) w w'):=Any.Builder_WriteByte_k Tryz.wlays167 Tryz.wextra B b bs c w h hlen hBw
open Go.RowKit in
theorem Tryz.wstring (B b:Nat) (bs:List Value) (s:ByteArray) (w:World) (h:Lib.IsBuilderF 124 5 B b bs w) (hlen:bs.length+s.size≤140737488355328) (hBw:B≤w.heap.size) :
  Calls Tryz.prog 128 #[.pointer (some ⟨b,0,none⟩),.string s] w fun e w'=>e=.returned (.tuple #[.int .i64 s.size,.nilIface])∧(Lib.BuilderAtF 124 5 B b (.pointer (some ⟨b,0,none⟩)) (bs++Lib.strCells s) w'∧Below B w w'∧Lib.OthersKept 5 (some b) w w'):=Any.Builder_WriteString_k Tryz.wlays166 Tryz.wextra B b bs s w h hlen hBw
end Go.Proofs
