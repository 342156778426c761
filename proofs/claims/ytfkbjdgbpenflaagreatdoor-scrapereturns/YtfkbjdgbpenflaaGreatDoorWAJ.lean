/- COUNTS, merged: the plain mathematics. Own work of the verifier. -/
import Derived.Handy
import Derived.Test.YtfkbjdgbpenflaaGreatDoorWAA
import Derived.WalkKit
import Derived.WalkSpells
import Derived.RowKit3
import Derived.Below
import Derived.Outline
import Derived.Deep.QuietTactic
import Derived.Deep.Draws
import Derived.BigQuiet
import Derived.Laws.Bits64
import Derived.Laws.BitsAllLaws
import Derived.Deep.RegionHeld3
import Derived.Deep.DeepCutAuto
import Derived.Test.YtfkbjdgbpenflaaGreatDoorWAB
import Derived.Test.YtfkbjdgbpenflaaGreatDoorRows
import Derived.Laws.ShiftsVarLaws
import Derived.Maps.AppendAt
import Derived.Deep.AppendLies
import Derived.Laws.OwnMore
set_option maxHeartbeats 1000000
namespace Go.Proofs.YtfkbjdgbpenflaaGreatDoor
abbrev Cn:=Int × Nat
def key:List Cn→Int→Nat
 | [],_=>0
 | c::L,k=>(if c.1=k then c.2 else 0)+key L k
end Go.Proofs.YtfkbjdgbpenflaaGreatDoor
namespace Go.Proofs.YtfkbjdgbpenflaaGreatDoor
open Go.RowKit
def Wc (L:List Cn):Prop:=∀ c ∈ L,-9223372036854775808≤c.1∧c.1 < 9223372036854775808∧c.2 < 18446744073709551616
def RowC (W:World) (b o:Nat) (L:List Cn):Prop:=∀ i (h:i < L.length),W.cell? ⟨b,o+i*2,none⟩=some (.int .i64 L[i].1)∧W.cell? ⟨b,o+i*2+1,none⟩=some (.int .u64 (L[i].2:Int))
theorem lt_of_cell {w:World} {a:Addr} {v:Value} (h:w.cell? a=some v):a.block < w.heap.size:=by
 unfold World.cell? at h
 split at h
 ·rename_i h1
  rcases Nat.lt_or_ge a.block w.heap.size with k | k
  ·exact k
  ·rw [Array.getElem?_eq_none k] at h1;cases h1
 ·cases h
theorem RowC.lt {W:World} {b o:Nat} {L:List Cn} (h:RowC W b o L) (hL:L≠[]):b < W.heap.size:=by
 have h0:0 < L.length:=List.length_pos_iff.2 hL
 exact lt_of_cell (h 0 h0).1
theorem RowC.below {W W1:World} {b o:Nat} {L:List Cn} {B:Nat} (h:RowC W b o L) (hb:Below B W W1) (hB:L≠[]→b < B):RowC W1 b o L:=fun i hi=>by
 have hL:L≠[]:=fun e=>by rw [e] at hi;simp at hi
 rw [hb.cell (p:=⟨b,o+i*2,none⟩) (hB hL),hb.cell (p:=⟨b,o+i*2+1,none⟩) (hB hL)]
 exact h i hi
def tot (L:List Cn):Nat:=(L.map (·.2)).sum % 18446744073709551616
theorem same_any (ao:Option Addr) (b o cap:Nat) (A:List Cn) (hao:A≠[]→ao=some ⟨b,o,none⟩) (ao':Option Addr) (b' o' cap':Nat) (C:List Cn) (hao':C≠[]→ao'=some ⟨b',o',none⟩) (hl:A.length≤9223372036854775807) (hl':C.length≤9223372036854775807) (w:World) (hA:RowC w b o A) (hC:RowC w b' o' C) :
  Calls Tryz.prog 35 #[.slice ao A.length cap,.slice ao' C.length cap'] w fun e w'=>e=.returned (.bool (decide (A=C)))∧∃ n,w'=w.drewN n:=by
 by_cases hlen:A.length=C.length
 ·have ht:((A.length:Int) != (C.length:Int))=false:=by rw [bne_eq_false_iff_eq];omega
  have HL:Hid _:=hlen
  clear hlen
  go_enter Tryz.func35,Tryz.ntmps35
  go_wp2_with fail
  go_loopw [5] (fun c wr=>∃ i n:Nat,i≤A.length∧c=.int .i64 (i:Int)∧wr=w.drewN n∧Hid (A.take i=C.take i)) (fun c _=>A.length - (intOf c).toNat)
  case atStart=>exact ⟨0,0,by omega,rfl,rfl,by simp [Hid]⟩
  case round =>
   obtain ⟨i,n,hi,rfl,rfl,hE⟩:=hrel
   by_cases hlt:i < A.length
   ·have hlt2:i < C.length:=by have:=HL.out;omega
    obtain rfl:=hao (by intro e;rw [e] at hlt;simp at hlt)
    obtain rfl:=hao' (by intro e;rw [e] at hlt2;simp at hlt2)
    have hlt':(i:Int) < (A.length:Int):=by omega
    have hlt2':(i:Int) < (C.length:Int):=by omega
    obtain ⟨q1,q2⟩:=hA i hlt
    obtain ⟨q3,q4⟩:=hC i hlt2
    have HT1:Hid (A.take (i+1)=A.take i++[A[i]]):=List.take_succ_eq_append_getElem hlt
    have HT2:Hid (C.take (i+1)=C.take i++[C[i]]):=List.take_succ_eq_append_getElem hlt2
    have HN:Hid (A[i]≠C[i]→A≠C):=fun h e=>h (by subst e;rfl)
    obtain ⟨x,y,hxy⟩:∃ x y,A[i]=(x,y):=⟨_,_,rfl⟩
    obtain ⟨u,v,huv⟩:∃ u v,C[i]=(u,v):=⟨_,_,rfl⟩
    rw [hxy] at q1 q2 HT1 HN
    rw [huv] at q3 q4 HT2 HN
    clear hxy huv
    by_cases he:x=u∧y=v
    ·obtain ⟨rfl,rfl⟩:=he
     go_wp2_with fail
     go_region
     go_wp2_with fail
     exact ⟨⟨i+1,n+1,by omega,by go_num,rfl,by unfold Hid;rw [HT1.out,HT2.out,hE.out]⟩,by simp [intOf];omega⟩
    ·have hne:decide (A=C)=false:=decide_eq_false (HN.out (fun e=>he ⟨(Prod.mk.inj e).1,(Prod.mk.inj e).2⟩))
     have HNE:Hid _:=hne
     have hor:(x == u)=false∨(x=u∧((y:Int) == (v:Int))=false):=by
      by_cases h1:x=u
      ·right
       exact ⟨h1,by rw [beq_eq_false_iff_ne];intro h2;exact he ⟨h1,by omega⟩⟩
      ·left
       rw [beq_eq_false_iff_ne]
       exact h1
     clear he hne HN
     rcases hor with h1 | ⟨rfl,h1⟩
     ·go_wp2_with fail
      go_region
      go_wp2_with fail
      go_ret
      exact ⟨retB HNE.out.symm,n+1,rfl⟩
     ·go_wp2_with fail
      go_region
      go_wp2_with fail
      go_ret
      exact ⟨retB HNE.out.symm,n+1,rfl⟩
   ·obtain rfl:i=A.length:=by omega
    have hlt':¬ (A.length:Int) < (A.length:Int):=by omega
    have he:decide (A=C)=true:=by
     have:=hE.out
     rw [List.take_length,HL.out,List.take_length] at this
     exact decide_eq_true this
    have HE:Hid _:=he
    clear he
    go_wp2_with fail
    go_ret
    exact ⟨retB HE.out.symm,n,rfl⟩
 ·have ht:((A.length:Int) != (C.length:Int))=true:=by rw [bne_iff_ne];omega
  have hne:decide (A=C)=false:=decide_eq_false (fun e=>hlen (by rw [e]))
  rw [hne]
  clear hlen hne
  go_enter Tryz.func35,Tryz.ntmps35
  go_wp2_with fail
  go_ret
  exact ⟨rfl,0,rfl⟩
def bad (N:Nat) (L:List Cn) (i:Nat):Int :=
 if (L.getD i (0,1)).1 < 0∨(N:Int)≤(L.getD i (0,1)).1 then 2
 else if 0 < i∧(L.getD i (0,1)).1≤(L.getD (i - 1) (0,1)).1 then 15
 else if (L.getD i (0,1)).2=0 then 16 else 0
def sumN (L:List Cn):Nat:=(L.map (·.2)).sum
theorem sumN_take (L:List Cn) (i:Nat) (h:i < L.length):sumN (L.take (i+1))=sumN (L.take i)+L[i].2:=by
 unfold sumN
 rw [List.take_succ_eq_append_getElem h,List.map_append,List.sum_append]
 simp
def MayIs (p:Int) (L:List Cn) (e:Int):Prop :=
 (¬ (1≤p∧p≤14)∧e=1)∨((1≤p∧p≤14)∧((∃ i,i < L.length∧(∀ j,j < i→bad ((64 - p.toNat)*2 ^ p.toNat) L j=0)∧bad ((64 - p.toNat)*2 ^ p.toNat) L i≠0∧e=bad ((64 - p.toNat)*2 ^ p.toNat) L i) ∨
  ((∀ j,j < L.length→bad ((64 - p.toNat)*2 ^ p.toNat) L j=0)∧e=if 9223372036854775807 < sumN L then 3 else 0)))
theorem MayIs.uniq {p:Int} {L:List Cn} {e f:Int} (h:MayIs p L e) (k:MayIs p L f):e=f:=by
 rcases h with ⟨h1,rfl⟩ | ⟨h1,h2⟩
 ·rcases k with ⟨_,rfl⟩ | ⟨k1,_⟩
  ·rfl
  ·exact absurd k1 h1
 ·rcases k with ⟨k1,_⟩ | ⟨_,k2⟩
  ·exact absurd h1 k1
  ·rcases h2 with ⟨i,a1,a2,a3,rfl⟩ | ⟨a1,rfl⟩ <;> rcases k2 with ⟨j,b1,b2,b3,rfl⟩ | ⟨b1,rfl⟩
   ·rcases Nat.lt_trichotomy i j with c | c | c
    ·exact absurd (b2 i c) a3
    ·rw [c]
    ·exact absurd (a2 j c) b3
   ·exact absurd (b1 i a1) a3
   ·exact absurd (a1 j b1) b3
   ·rfl
theorem mayIs_ex (p:Int) (L:List Cn):∃ e,MayIs p L e:=by
 by_cases hp:1≤p∧p≤14
 ·by_cases h:∀ j,j < L.length→bad ((64 - p.toNat)*2 ^ p.toNat) L j=0
  ·exact ⟨_,Or.inr ⟨hp,Or.inr ⟨h,rfl⟩⟩⟩
  ·have:∀ m,(∃ j,j < m∧j < L.length∧bad ((64 - p.toNat)*2 ^ p.toNat) L j≠0)→∃ i,i < L.length∧(∀ j,j < i→bad ((64 - p.toNat)*2 ^ p.toNat) L j=0)∧bad ((64 - p.toNat)*2 ^ p.toNat) L i≠0:=by
    intro m
    induction m with
    | zero=>rintro ⟨j,hj,_⟩;omega
    | succ m ih =>
     rintro ⟨j,hj,hl,hb⟩
     by_cases c:∃ j,j < m∧j < L.length∧bad ((64 - p.toNat)*2 ^ p.toNat) L j≠0
     ·exact ih c
     ·have e:j=m:=by
       by_cases h':j < m
       ·exact absurd ⟨j,h',hl,hb⟩ c
       ·omega
      subst e
      refine ⟨j,hl,fun k hk=>?_,hb⟩
      by_cases h':bad ((64 - p.toNat)*2 ^ p.toNat) L k=0
      ·exact h'
      ·exact absurd ⟨k,hk,by omega,h'⟩ c
   have hex:∃ j,j < L.length∧j < L.length∧bad ((64 - p.toNat)*2 ^ p.toNat) L j≠0:=by
    apply Classical.byContradiction
    intro hn
    exact h fun j hj=>Classical.byContradiction fun hb=>hn ⟨j,hj,hj,hb⟩
   obtain ⟨i,h1,h2,h3⟩:=this _ hex
   exact ⟨_,Or.inr ⟨hp,Or.inl ⟨i,h1,h2,h3,rfl⟩⟩⟩
 ·exact ⟨1,Or.inl ⟨hp,rfl⟩⟩
theorem below_drew (w:World) (n:Nat):Below w.heap.size w (w.drewN n):=by
 induction n with
 | zero=>exact Below.refl _ _
 | succ n ih=>exact ih.drew
def hiV (p i:Nat):Nat:=lo (2 ^ p) i+2 ^ kk (2 ^ p) i - 1
theorem may_ok {p:Int} {L:List Cn} (h:MayIs p L 0):(1≤p∧p≤14)∧sumN L≤9223372036854775807∧∀ i (hi:i < L.length),0≤L[i].1∧L[i].1 < (((64 - p.toNat)*2 ^ p.toNat:Nat):Int)∧L[i].2≠0:=by
 rcases h with ⟨_,h⟩ | ⟨hp,h⟩
 ·exact absurd h (by decide)
 ·rcases h with ⟨i,_,_,h3,h4⟩ | ⟨h1,h2⟩
  ·exact absurd h4.symm h3
  ·refine ⟨hp,?_,fun i hi=>?_⟩
   ·by_cases c:9223372036854775807 < sumN L
    ·rw [if_pos c] at h2;exact absurd h2 (by decide)
    ·omega
   ·have hb:=h1 i hi
    unfold bad at hb
    rw [show L.getD i (0,1)=L[i] from by simp [List.getD,hi]] at hb
    by_cases c1:L[i].1 < 0∨(((64 - p.toNat)*2 ^ p.toNat:Nat):Int)≤L[i].1
    ·rw [if_pos c1] at hb;exact absurd hb (by decide)
    ·rw [if_neg c1] at hb
     by_cases c2:0 < i∧L[i].1≤(L.getD (i - 1) (0,1)).1
     ·rw [if_pos c2] at hb;exact absurd hb (by decide)
     ·rw [if_neg c2] at hb
      by_cases c3:L[i].2=0
      ·rw [if_pos c3] at hb;exact absurd hb (by decide)
      ·exact ⟨by omega,by omega,c3⟩
theorem bt {w W W1:World} (h:Below w.heap.size w W) (k:Below W.heap.size W W1):Below w.heap.size w W1:=h.trans (k.mono h.size)
def fl:List Cn→List Value
 | []=>[]
 | c::L=>.int .i64 c.1::.int .u64 (c.2:Int)::fl L
theorem fl_length (L:List Cn):(fl L).length=L.length*2:=by
 induction L with
 | nil=>rfl
 | cons c L ih=>simp only [fl,List.length_cons,ih];omega
theorem fl_append (A B:List Cn):fl (A++B)=fl A++fl B:=by
 induction A with
 | nil=>rfl
 | cons c A ih=>simp only [List.cons_append,fl,ih]
theorem fl_get (L:List Cn) (i:Nat) (h:i < L.length):(fl L)[i*2]? =some (.int .i64 L[i].1)∧(fl L)[i*2+1]? =some (.int .u64 (L[i].2:Int)):=by
 induction L generalizing i with
 | nil=>simp at h
 | cons c L ih =>
  cases i with
  | zero=>exact ⟨rfl,rfl⟩
  | succ i =>
   have:=ih i (by simpa using h)
   rw [show (i+1)*2=i*2+2 by omega]
   simpa [fl] using this
theorem fl_one (L:List Cn):∀ u ∈ fl L,u.oneCell'=true:=by
 induction L with
 | nil=>intro u hu;cases hu
 | cons c L ih =>
  intro u hu
  simp only [fl,List.mem_cons] at hu
  rcases hu with rfl | rfl | h
  ·rfl
  ·rfl
  ·exact ih u h
theorem RowC.cells {w:World} {b o:Nat} {L:List Cn} (h:RowC w b o L) (j:Nat) (u:Value) (hu:(fl L)[j]? =some u):w.cell? ((⟨b,o,none⟩:Addr).add j)=some u:=by
 have hj:j < (fl L).length:=by
  rcases Nat.lt_or_ge j (fl L).length with c | c
  ·exact c
  ·rw [List.getElem?_eq_none c] at hu;cases hu
 rw [fl_length] at hj
 rw [Addr.add_lit]
 have hi:j / 2 < L.length:=by omega
 obtain ⟨g1,g2⟩:=fl_get L (j / 2) hi
 obtain ⟨r1,r2⟩:=h (j / 2) hi
 rcases Nat.mod_two_eq_zero_or_one j with e | e
 ·rw [show j / 2*2=j by omega] at g1 r1
  rw [g1] at hu
  rw [← hu]
  exact r1
 ·rw [show j / 2*2+1=j by omega] at g2
  rw [show o+j / 2*2+1=o+j by omega] at r2
  rw [g2] at hu
  rw [← hu]
  exact r2
structure GC (B:Nat) (W0:World) (v:Value) (xs:List Cn) (w:World):Prop where
 own:w.ownsRow B 79 2 v xs.length (fl xs)
 below:Below B W0 w
 size:B≤w.heap.size
theorem infoC:(Tryz.prog.info? 79).map (fun i=>(i.zero,i.size,i.bytes))=some (some (.agg #[.int .i64 0,.int .u64 0]),2,16):=by kernel_rfl
def SC (w:World) (v:Value) (L:List Cn):Prop:=∃ ao b o cap,v=.slice ao L.length cap∧(L≠[]→ao=some ⟨b,o,none⟩)∧RowC w b o L
theorem GC.sc {B:Nat} {W0 w:World} {v:Value} {xs:List Cn} (h:GC B W0 v xs w):SC w v xs:=by
 obtain ⟨hl,h2⟩:=h.own
 rcases h2 with ⟨rfl,hn⟩ | ⟨g,cap,cur,rfl,hg,hh,hc,hm,hs,ht⟩
 ·have:xs=[]:=List.length_eq_zero_iff.1 hn
  subst this
  exact ⟨none,0,0,0,rfl,fun k=>absurd rfl k,fun i hi=>by simp at hi⟩
 ·refine ⟨some ⟨g,0,none⟩,g,0,cap,rfl,fun _=>rfl,fun i hi=>?_⟩
  obtain ⟨g1,g2⟩:=fl_get xs i hi
  have key:∀ j u,(fl xs)[j]? =some u→w.cell? ⟨g,0+j,none⟩=some u:=fun j u hu=>by
   rw [← ht] at hu
   rw [List.getElem?_take] at hu
   unfold World.cell?
   rw [hh]
   split at hu
   ·simpa using hu
   ·cases hu
  exact ⟨key _ _ g1,by have:=key _ _ g2;rw [← Nat.add_assoc] at this;exact this⟩
theorem cell_two_new (w:World) (x y:Value) (t:TypeId):∀ j u,[x,y][j]? =some u→(w.alloc (.cells #[x,y] t)).cell? ((⟨w.heap.size,0,none⟩:Addr).add j)=some u:=by
 intro j u hu
 rw [Addr.add_lit]
 unfold World.cell?
 have hh:(w.alloc (.cells #[x,y] t)).heap[w.heap.size]? =some (.cells #[x,y] t):=by
  show (w.heap.push _)[w.heap.size]? =_
  simp
 rw [hh]
 match j,hu with
 | 0,hu=>simpa using hu
 | 1,hu=>simpa using hu
 | j+2,hu=>simp at hu
theorem gc_form2 {B:Nat} {W0 w:World} {v:Value} {xs:List Cn} (h:GC B W0 v xs w):(v=.slice none 0 0∧xs=[])∨∃ g cap,v=.slice (some ⟨g,0,none⟩) xs.length cap∧xs.length≤cap:=by
 rcases h.own.2 with ⟨k,k2⟩ | ⟨g,cap,cur,hv,_,_,hc,_⟩
 ·exact Or.inl ⟨k,List.length_eq_zero_iff.1 k2⟩
 ·exact Or.inr ⟨g,cap,hv,hc⟩
theorem cell_one_new (w:World) (x:Value) (t:TypeId):∀ j u,[x][j]? =some u→(w.alloc (.cells #[x] t)).cell? ((⟨w.heap.size,0,none⟩:Addr).add j)=some u:=by
 intro j u hu
 rw [Addr.add_lit]
 unfold World.cell?
 have hh:(w.alloc (.cells #[x] t)).heap[w.heap.size]? =some (.cells #[x] t):=by
  show (w.heap.push _)[w.heap.size]? =_
  simp
 rw [hh]
 match j,hu with
 | 0,hu=>simpa using hu
 | j+1,hu=>simp at hu
def ex (O:List Cn):List Int:=O.flatMap (fun c=>List.replicate c.2 c.1)
def RowA (w:World) (a:Addr) (L:List Cn):Prop:=∀ j u,(fl L)[j]? =some u→w.cell? (a.add j)=some u
theorem RowA.below {w w1:World} {a:Addr} {L:List Cn} (h:RowA w a L) (hb:Below w.heap.size w w1):RowA w1 a L:=fun j u hu=>(hb.cell (lt_of_cell (h j u hu))).trans (h j u hu)
theorem RowA.row {w:World} {a:Addr} {L:List Cn} (h:RowA w a L) (hne:L≠[]):∃ b o,a=⟨b,o,none⟩∧RowC w b o L:=by
 have h0:0 < L.length:=List.length_pos_iff.2 hne
 obtain ⟨b,o,s⟩:=a
 have hs:s=none:=by
  have:=World.cell?_spot (h (0*2) _ (fl_get L 0 h0).1)
  simpa [Addr.add] using this
 subst hs
 refine ⟨b,o,rfl,fun i hi=>?_⟩
 obtain ⟨g1,g2⟩:=fl_get L i hi
 have r1:=h _ _ g1
 have r2:=h _ _ g2
 rw [Addr.add_lit] at r1 r2
 exact ⟨r1,by rw [← Nat.add_assoc] at r2;exact r2⟩
def SN (w:World) (v:Value) (L:List Cn):Prop:=(v=.slice none 0 0∧L=[])∨∃ a cap,v=.slice (some a) L.length cap∧L.length≤cap∧RowA w a L
theorem SN.sc2 {w:World} {v:Value} {L:List Cn} (h:SN w v L):∃ ao b o cap,v=.slice ao L.length cap∧(L≠[]→ao=some ⟨b,o,none⟩)∧RowC w b o L∧L.length≤cap:=by
 rcases h with ⟨rfl,rfl⟩ | ⟨a,cap,rfl,hc,hr⟩
 ·exact ⟨none,0,0,0,rfl,fun k=>absurd rfl k,(fun i hi=>by simp at hi),Nat.zero_le _⟩
 ·by_cases hne:L=[]
  ·subst hne
   exact ⟨some a,0,0,cap,rfl,fun k=>absurd rfl k,(fun i hi=>by simp at hi),hc⟩
  ·obtain ⟨b,o,e,hr2⟩:=hr.row hne
   exact ⟨_,b,o,cap,rfl,fun _=>by rw [e],hr2,hc⟩
theorem SN.sc {w:World} {v:Value} {L:List Cn} (h:SN w v L):SC w v L:=by
 obtain ⟨ao,b,o,cap,h1,h2,h3,_⟩:=h.sc2
 exact ⟨ao,b,o,cap,h1,h2,h3⟩
theorem SN.below {w w1:World} {v:Value} {L:List Cn} (h:SN w v L) (hb:Below w.heap.size w w1):SN w1 v L:=by
 rcases h with h | ⟨a,cap,h1,h2,hr⟩
 ·exact Or.inl h
 ·exact Or.inr ⟨a,cap,h1,h2,hr.below hb⟩
theorem GC.sn {B:Nat} {W0 w:World} {v:Value} {xs:List Cn} (h:GC B W0 v xs w):SN w v xs:=by
 rcases gc_form2 h with ⟨rfl,rfl⟩ | ⟨g,cap,rfl,hc⟩
 ·exact Or.inl ⟨rfl,rfl⟩
 ·obtain ⟨ao,b,o,c,hv,hao,hr⟩:=h.sc
  have hR:RowC w g 0 xs:=fun i hi=>by
   have hne:xs≠[]:=fun e=>by rw [e] at hi;simp at hi
   have:=hao hne
   subst this
   cases hv
   exact hr i hi
  exact Or.inr ⟨⟨g,0,none⟩,cap,rfl,hc,hR.cells⟩
theorem same_sn {w:World} {v v':Value} {A C:List Cn} (h:SN w v A) (h':SN w v' C) (hl:A.length≤9223372036854775807) (hl':C.length≤9223372036854775807):Calls Tryz.prog 35 #[v,v'] w fun e w'=>e=.returned (.bool (decide (A=C)))∧Below w.heap.size w w':=by
 obtain ⟨ao,b,o,cap,rfl,hao,hr⟩:=h.sc
 obtain ⟨ao',b',o',cap',rfl,hao',hr'⟩:=h'.sc
 refine Calls.mono (same_any ao b o cap A hao ao' b' o' cap' C hao' hl hl' w hr hr') ?_
 rintro e w' ⟨rfl,n,rfl⟩
 exact ⟨rfl,below_drew w n⟩
end Go.Proofs.YtfkbjdgbpenflaaGreatDoor
