/- AtMost, Quantile, the document's. Own work of the verifier. -/
import Derived.Test.YtlgkfeeclgcgbaaGreatDoorZAA
import Derived.Maps.AppendAt
import Derived.Deep.AppendLies
import Derived.Laws.OwnMore
import Derived.Test.YtlgkfeeclgcgbaaGreatDoorRows
import Derived.WalkKit
import Derived.WalkSpells
import Derived.RowKit3
import Derived.Below
import Derived.Laws.Externs
import Derived.Shelf.Spec.BitsCarry
import Derived.Outline
import Derived.Deep.QuietTactic
import Derived.BigQuiet
import Derived.Deep.RegionHeld3
import Derived.Laws.Bits64
import Derived.Lib.Zigzag
import Derived.RangeFuncNested
import Derived.RangeFuncBound
import Derived.RangeFuncCalls
import Derived.RangeFuncLeaves
import Derived.Shelf.Abstract
import Derived.Shelf.RegionOpen
import Derived.OwnWalkIn
import Derived.TacticsInMore
import Derived.LoopNIn
import Derived.LoopIn
namespace Go.Proofs.YtlgkfeeclgcgbaaGreatDoor
open Go.RowKit
def hiV (p i:Nat):Nat:=lo (2 ^ p) i+2 ^ kk (2 ^ p) i - 1
theorem may_ok {p:Int} {L:List Cn} (h:MayIs p L 0):(1≤p∧p≤14)∧sumN L≤9223372036854775807∧∀ i (hi:i < L.length),0≤L[i].1∧L[i].1 < (((64 - p.toNat)*2 ^ p.toNat:Nat):Int)∧L[i].2≠0:=by
 rcases h with ⟨_,h⟩ | ⟨hp,h⟩
 ·exact absurd h (by decide)
 ·rcases h with ⟨i,_,_,h3,h4⟩ | ⟨h1,h2⟩
  ·exact absurd h4.symm h3
  ·refine ⟨hp,?_,fun i hi=>?_⟩
   ·by_cases c:9223372036854775807 < sumN L
    ·rw [if_pos c] at h2;exact absurd h2 (by decide)
    ·omega
   ·have hb:=h1 i hi
    unfold bad at hb
    rw [show L.getD i (0,1)=L[i] from by simp [List.getD,hi]] at hb
    by_cases c1:L[i].1 < 0∨(((64 - p.toNat)*2 ^ p.toNat:Nat):Int)≤L[i].1
    ·rw [if_pos c1] at hb;exact absurd hb (by decide)
    ·rw [if_neg c1] at hb
     by_cases c2:0 < i∧L[i].1≤(L.getD (i - 1) (0,1)).1
     ·rw [if_pos c2] at hb;exact absurd hb (by decide)
     ·rw [if_neg c2] at hb
      by_cases c3:L[i].2=0
      ·rw [if_pos c3] at hb;exact absurd hb (by decide)
      ·exact ⟨by omega,by omega,c3⟩
end Go.Proofs.YtlgkfeeclgcgbaaGreatDoor
/- Quantile, the document's. Own work of the verifier. -/
namespace Go.Proofs.YtlgkfeeclgcgbaaGreatDoor
open Go.RowKit
theorem bt {w W W1:World} (h:Below w.heap.size w W) (k:Below W.heap.size W W1):Below w.heap.size w W1:=h.trans (k.mono h.size)
end Go.Proofs.YtlgkfeeclgcgbaaGreatDoor
/- ROWS OF COUNTS that grow. Own work of the verifier. -/
namespace Go.Proofs.YtlgkfeeclgcgbaaGreatDoor
open Go.RowKit
def fl:List Cn→List Value
 | []=>[]
 | c::L=>.int .i64 c.1::.int .u64 (c.2:Int)::fl L
theorem fl_length (L:List Cn):(fl L).length=L.length*2:=by
 induction L with
 | nil=>rfl
 | cons c L ih=>simp only [fl,List.length_cons,ih];omega
theorem fl_append (A B:List Cn):fl (A++B)=fl A++fl B:=by
 induction A with
 | nil=>rfl
 | cons c A ih=>simp only [List.cons_append,fl,ih]
theorem fl_get (L:List Cn) (i:Nat) (h:i < L.length):(fl L)[i*2]? =some (.int .i64 L[i].1)∧(fl L)[i*2+1]? =some (.int .u64 (L[i].2:Int)):=by
 induction L generalizing i with
 | nil=>simp at h
 | cons c L ih =>
  cases i with
  | zero=>exact ⟨rfl,rfl⟩
  | succ i =>
   have:=ih i (by simpa using h)
   rw [show (i+1)*2=i*2+2 by omega]
   simpa [fl] using this
theorem fl_one (L:List Cn):∀ u ∈ fl L,u.oneCell'=true:=by
 induction L with
 | nil=>intro u hu;cases hu
 | cons c L ih =>
  intro u hu
  simp only [fl,List.mem_cons] at hu
  rcases hu with rfl | rfl | h
  ·rfl
  ·rfl
  ·exact ih u h
theorem RowC.cells {w:World} {b o:Nat} {L:List Cn} (h:RowC w b o L) (j:Nat) (u:Value) (hu:(fl L)[j]? =some u):w.cell? ((⟨b,o,none⟩:Addr).add j)=some u:=by
 have hj:j < (fl L).length:=by
  rcases Nat.lt_or_ge j (fl L).length with c | c
  ·exact c
  ·rw [List.getElem?_eq_none c] at hu;cases hu
 rw [fl_length] at hj
 rw [Addr.add_lit]
 have hi:j / 2 < L.length:=by omega
 obtain ⟨g1,g2⟩:=fl_get L (j / 2) hi
 obtain ⟨r1,r2⟩:=h (j / 2) hi
 rcases Nat.mod_two_eq_zero_or_one j with e | e
 ·rw [show j / 2*2=j by omega] at g1 r1
  rw [g1] at hu
  rw [← hu]
  exact r1
 ·rw [show j / 2*2+1=j by omega] at g2
  rw [show o+j / 2*2+1=o+j by omega] at r2
  rw [g2] at hu
  rw [← hu]
  exact r2
structure GC (B:Nat) (W0:World) (v:Value) (xs:List Cn) (w:World):Prop where
 own:w.ownsRow B 174 2 v xs.length (fl xs)
 below:Below B W0 w
 size:B≤w.heap.size
theorem infoC:(Tryz.prog.info? 174).map (fun i=>(i.zero,i.size,i.bytes))=some (some (.agg #[.int .i64 0,.int .u64 0]),2,16):=by kernel_rfl
def SC (w:World) (v:Value) (L:List Cn):Prop:=∃ ao b o cap,v=.slice ao L.length cap∧(L≠[]→ao=some ⟨b,o,none⟩)∧RowC w b o L
theorem GC.sc {B:Nat} {W0 w:World} {v:Value} {xs:List Cn} (h:GC B W0 v xs w):SC w v xs:=by
 obtain ⟨hl,h2⟩:=h.own
 rcases h2 with ⟨rfl,hn⟩ | ⟨g,cap,cur,rfl,hg,hh,hc,hm,hs,ht⟩
 ·have:xs=[]:=List.length_eq_zero_iff.1 hn
  subst this
  exact ⟨none,0,0,0,rfl,fun k=>absurd rfl k,fun i hi=>by simp at hi⟩
 ·refine ⟨some ⟨g,0,none⟩,g,0,cap,rfl,fun _=>rfl,fun i hi=>?_⟩
  obtain ⟨g1,g2⟩:=fl_get xs i hi
  have key:∀ j u,(fl xs)[j]? =some u→w.cell? ⟨g,0+j,none⟩=some u:=fun j u hu=>by
   rw [← ht] at hu
   rw [List.getElem?_take] at hu
   unfold World.cell?
   rw [hh]
   split at hu
   ·simpa using hu
   ·cases hu
  exact ⟨key _ _ g1,by have:=key _ _ g2;rw [← Nat.add_assoc] at this;exact this⟩
end Go.Proofs.YtlgkfeeclgcgbaaGreatDoor
/- sorted, the document's. Own work of the verifier. -/
namespace Go.Proofs.YtlgkfeeclgcgbaaGreatDoor
open Go.RowKit
theorem own_nil (w:World) (B:Nat):w.ownsRow B 174 2 (.slice none 0 0) 0 []:=⟨rfl,Or.inl ⟨rfl,rfl⟩⟩
theorem RowC.take {w:World} {b o:Nat} {L:List Cn} (h:RowC w b o L) (k:Nat):RowC w b o (L.take k):=fun i hi=>by
 rw [List.length_take] at hi
 rw [List.getElem_take]
 exact h i (by omega)
theorem RowC.drop {w:World} {b o:Nat} {L:List Cn} (h:RowC w b o L) (k:Nat):RowC w b (o+k*2) (L.drop k):=fun i hi=>by
 rw [List.length_drop] at hi
 rw [List.getElem_drop]
 have:=h (k+i) (by omega)
 rw [show o+(k+i)*2=o+k*2+i*2 by omega] at this
 exact this
def slen:Value→Nat
 | .slice _ n _=>n
 | _=>0
theorem cell_two_new (w:World) (x y:Value) (t:TypeId):∀ j u,[x,y][j]? =some u→(w.alloc (.cells #[x,y] t)).cell? ((⟨w.heap.size,0,none⟩:Addr).add j)=some u:=by
 intro j u hu
 rw [Addr.add_lit]
 unfold World.cell?
 have hh:(w.alloc (.cells #[x,y] t)).heap[w.heap.size]? =some (.cells #[x,y] t):=by
  show (w.heap.push _)[w.heap.size]? =_
  simp
 rw [hh]
 match j,hu with
 | 0,hu=>simpa using hu
 | 1,hu=>simpa using hu
 | j+2,hu=>simp at hu
theorem two_one (x:Int) (y:Nat):∀ u ∈ [Value.int .i64 x,Value.int .u64 (y:Int)],u.oneCell'=true:=by
 intro u hu
 simp at hu
 rcases hu with rfl | rfl <;> rfl
theorem GC.grow {B:Nat} {W0 w w1 w':World} {v v':Value} {xs ys:List Cn} (h:GC B W0 v xs w) (hb:Below B W0 w1) (hs:B≤w1.heap.size) (hown:w'.ownsRow B 174 2 v' (xs.length+ys.length) (fl xs++fl ys)) (hg:w1.grownBy w' v.ownBlock):GC B W0 v' (xs++ys) w':=by
 refine ⟨by rw [List.length_append,fl_append];exact hown,?_,by have:=hg.size;omega⟩
 refine hb.grown hg hs (fun k e=>?_)
 rcases h.own.2 with ⟨rfl,_⟩ | ⟨g,cap,cur,rfl,hB,_⟩
 ·cases e
 ·cases e;exact hB
theorem GC.push {B:Nat} {W0 w w':World} {v v':Value} {xs:List Cn} (h:GC B W0 v xs w) (x:Cn) (ob:Obj) (hown:w'.ownsRow B 174 2 v' (xs.length+1) (fl xs++[.int .i64 x.1,.int .u64 (x.2:Int)])) (hg:(w.alloc ob).grownBy w' v.ownBlock):GC B W0 v' (xs++[x]) w' :=
 h.grow (ys:=[x]) (h.below.alloc h.size _) (by simp;have:=h.size;omega) hown hg
theorem GC.rebase {W0 W2 w:World} {v:Value} {xs:List Cn} (h:GC W2.heap.size W2 v xs w) (hb:Below W0.heap.size W0 W2):GC W0.heap.size W0 v xs w:=by
 have hs:=hb.size
 refine ⟨⟨h.own.1,?_⟩,hb.trans (h.below.mono hs),by have:=h.size;omega⟩
 rcases h.own.2 with k | ⟨g,cap,cur,hv,hB,hrest⟩
 ·exact Or.inl k
 ·exact Or.inr ⟨g,cap,cur,hv,by omega,hrest⟩
end Go.Proofs.YtlgkfeeclgcgbaaGreatDoor
/- SORTED, the law's own, of whole numbers. Own work of the verifier. -/
namespace Go.Proofs.YtlgkfeeclgcgbaaGreatDoor
open Go.RowKit
theorem cell_one_new (w:World) (x:Value) (t:TypeId):∀ j u,[x][j]? =some u→(w.alloc (.cells #[x] t)).cell? ((⟨w.heap.size,0,none⟩:Addr).add j)=some u:=by
 intro j u hu
 rw [Addr.add_lit]
 unfold World.cell?
 have hh:(w.alloc (.cells #[x] t)).heap[w.heap.size]? =some (.cells #[x] t):=by
  show (w.heap.push _)[w.heap.size]? =_
  simp
 rw [hh]
 match j,hu with
 | 0,hu=>simpa using hu
 | j+1,hu=>simp at hu
end Go.Proofs.YtlgkfeeclgcgbaaGreatDoor
/- Merge, the document's. Own work of the verifier. -/
namespace Go.Proofs.YtlgkfeeclgcgbaaGreatDoor
open Go.RowKit
def Md (W:World) (L:List Cn) (e:Ending) (w':World):Prop:=∃ v' O,e=.returned v'∧IsMerge O L∧GC W.heap.size W v' O w'
theorem key_cut {S:List Cn} {i:Nat} {x:Int} (hc:Cut S i) (hi:i < S.length) (hx:x=S[i].1):key (S.take i) x % 18446744073709551616=0:=by
 rw [key_none fun c hcm=>?_]
 have:=hc c hcm (S[i]) (by rw [List.drop_eq_getElem_cons hi];exact List.mem_cons_self)
 omega
end Go.Proofs.YtlgkfeeclgcgbaaGreatDoor
/- Merge, the document's, where a list is none. Own work of the verifier. -/
namespace Go.Proofs.YtlgkfeeclgcgbaaGreatDoor
open Go.RowKit
theorem gc_form2 {B:Nat} {W0 w:World} {v:Value} {xs:List Cn} (h:GC B W0 v xs w):(v=.slice none 0 0∧xs=[])∨∃ g cap,v=.slice (some ⟨g,0,none⟩) xs.length cap∧xs.length≤cap:=by
 rcases h.own.2 with ⟨k,k2⟩ | ⟨g,cap,cur,hv,_,_,hc,_⟩
 ·exact Or.inl ⟨k,List.length_eq_zero_iff.1 k2⟩
 ·exact Or.inr ⟨g,cap,hv,hc⟩
end Go.Proofs.YtlgkfeeclgcgbaaGreatDoor
/- COUNTED, the law's own. Own work of the verifier. -/
namespace Go.Proofs.YtlgkfeeclgcgbaaGreatDoor
open Go.RowKit
def ex (O:List Cn):List Int:=O.flatMap (fun c=>List.replicate c.2 c.1)
theorem rise_few:∀ (O:List Cn) (a:Nat),Rise O→(∀ c ∈ O,(a:Int)≤c.1∧c.1 < 819200)→a≤819200→O.length+a≤819200
 | [],a,_,_,ha=>by simpa using ha
 | c::O,a,hr,hb,_=>by
  obtain ⟨h1,h2⟩:=List.pairwise_cons.1 hr
  have hc:=hb c (by simp)
  have:=rise_few O (c.1.toNat+1) h2 (fun d hd=>by have:=h1 d hd;have:=hb d (by simp [hd]);omega) (by omega)
  simp only [List.length_cons]
  omega
end Go.Proofs.YtlgkfeeclgcgbaaGreatDoor
/- THE WALK OF THE QUANTILES' LAW, for whatever keeps the document's answers. Own work of the verifier. -/
namespace Go.Proofs.YtlgkfeeclgcgbaaGreatDoor
open Go.RowKit
def RowA (w:World) (a:Addr) (L:List Cn):Prop:=∀ j u,(fl L)[j]? =some u→w.cell? (a.add j)=some u
theorem RowA.below {w w1:World} {a:Addr} {L:List Cn} (h:RowA w a L) (hb:Below w.heap.size w w1):RowA w1 a L:=fun j u hu=>(hb.cell (lt_of_cell (h j u hu))).trans (h j u hu)
theorem RowA.nil (w:World) (a:Addr):RowA w a []:=fun j u hu=>by simp [fl] at hu
theorem RowA.row {w:World} {a:Addr} {L:List Cn} (h:RowA w a L) (hne:L≠[]):∃ b o,a=⟨b,o,none⟩∧RowC w b o L:=by
 have h0:0 < L.length:=List.length_pos_iff.2 hne
 obtain ⟨b,o,s⟩:=a
 have hs:s=none:=by
  have:=World.cell?_spot (h (0*2) _ (fl_get L 0 h0).1)
  simpa [Addr.add] using this
 subst hs
 refine ⟨b,o,rfl,fun i hi=>?_⟩
 obtain ⟨g1,g2⟩:=fl_get L i hi
 have r1:=h _ _ g1
 have r2:=h _ _ g2
 rw [Addr.add_lit] at r1 r2
 exact ⟨r1,by rw [← Nat.add_assoc] at r2;exact r2⟩
def SN (w:World) (v:Value) (L:List Cn):Prop:=(v=.slice none 0 0∧L=[])∨∃ a cap,v=.slice (some a) L.length cap∧L.length≤cap∧RowA w a L
theorem SN.sc2 {w:World} {v:Value} {L:List Cn} (h:SN w v L):∃ ao b o cap,v=.slice ao L.length cap∧(L≠[]→ao=some ⟨b,o,none⟩)∧RowC w b o L∧L.length≤cap:=by
 rcases h with ⟨rfl,rfl⟩ | ⟨a,cap,rfl,hc,hr⟩
 ·exact ⟨none,0,0,0,rfl,fun k=>absurd rfl k,(fun i hi=>by simp at hi),Nat.zero_le _⟩
 ·by_cases hne:L=[]
  ·subst hne
   exact ⟨some a,0,0,cap,rfl,fun k=>absurd rfl k,(fun i hi=>by simp at hi),hc⟩
  ·obtain ⟨b,o,e,hr2⟩:=hr.row hne
   exact ⟨_,b,o,cap,rfl,fun _=>by rw [e],hr2,hc⟩
theorem SN.sc {w:World} {v:Value} {L:List Cn} (h:SN w v L):SC w v L:=by
 obtain ⟨ao,b,o,cap,h1,h2,h3,_⟩:=h.sc2
 exact ⟨ao,b,o,cap,h1,h2,h3⟩
theorem SN.below {w w1:World} {v:Value} {L:List Cn} (h:SN w v L) (hb:Below w.heap.size w w1):SN w1 v L:=by
 rcases h with h | ⟨a,cap,h1,h2,hr⟩
 ·exact Or.inl h
 ·exact Or.inr ⟨a,cap,h1,h2,hr.below hb⟩
theorem GC.sn {B:Nat} {W0 w:World} {v:Value} {xs:List Cn} (h:GC B W0 v xs w):SN w v xs:=by
 rcases gc_form2 h with ⟨rfl,rfl⟩ | ⟨g,cap,rfl,hc⟩
 ·exact Or.inl ⟨rfl,rfl⟩
 ·obtain ⟨ao,b,o,c,hv,hao,hr⟩:=h.sc
  have hR:RowC w g 0 xs:=fun i hi=>by
   have hne:xs≠[]:=fun e=>by rw [e] at hi;simp at hi
   have:=hao hne
   subst this
   cases hv
   exact hr i hi
  exact Or.inr ⟨⟨g,0,none⟩,cap,rfl,hc,hR.cells⟩
end Go.Proofs.YtlgkfeeclgcgbaaGreatDoor
/- THE LEAVES: sums, differences, order, of numbers of 128 bits: the code's and the document's. Own work of the verifier. -/
set_option maxHeartbeats 400000
namespace Go.Proofs.YtlgkfeeclgcgbaaGreatDoor
open Go.RowKit
def bor (x y:Int):Int:=if x < y then 1 else 0
theorem bor_0 (x y:Int):0≤bor x y:=by unfold bor;split <;> decide
theorem bor_1 (x y:Int):bor x y≤1:=by unfold bor;split <;> decide
theorem add64_0 (x y:Int) (hx:0≤x) (hy:0≤y) (w:World):(callFunc 116 #[.int .u64 x,.int .u64 y,.int .u64 0]).run Tryz.prog w =
  .ok (.value (.tuple #[.int .u64 ((x+y) % 18446744073709551616),.int .u64 ((x+y) / 18446744073709551616)])) w:=by
 rw [run_callFunc_extern Tryz.func116 (by kernel_rfl) (by kernel_rfl) (by kernel_rfl) (e:=add64Entry) (by kernel_rfl),run_add64 x y 0 (by omega) (by omega) (by omega) (by omega)]
 simp [Result.andThen]
theorem sub64_0 (x y:Int) (hx:0≤x) (hy:0≤y) (hy':y < 18446744073709551616) (w:World):(callFunc 318 #[.int .u64 x,.int .u64 y,.int .u64 0]).run Tryz.prog w =
  .ok (.value (.tuple #[.int .u64 ((x - y) % 18446744073709551616),.int .u64 (bor x y)])) w:=by
 obtain ⟨x,rfl⟩:=Int.eq_ofNat_of_zero_le hx
 obtain ⟨y,rfl⟩:=Int.eq_ofNat_of_zero_le hy
 have e1:(((x+18446744073709551616 - y - 0) % 18446744073709551616:Nat):Int)=((x:Int) - y) % 18446744073709551616:=by omega
 have e2:((if x < y+0 then 1 else 0:Nat):Int)=bor (x:Int) y:=by unfold bor;split <;> split <;> omega
 have h:=run_callFunc_extern Tryz.func318 (by kernel_rfl) (by kernel_rfl) (by kernel_rfl) (e:=sub64Entry) (by kernel_rfl) #[.int .u64 (x:Int),.int .u64 (y:Int),.int .u64 0] w
 rw [h,← e1,← e2,show (0:Int)=((0:Nat):Int) from rfl,run_sub64 x y 0 (by omega)]
 rfl
theorem add_words {ah al bh bl:Int} (h1:Wf ah al) (h2:Wf bh bl):wrap64 (wrap64 (ah+bh)+(al+bl) / 18446744073709551616)=hiOf (rnd (val ah al+val bh bl))∧(al+bl) % 18446744073709551616=loOf (rnd (val ah al+val bh bl)):=by
 obtain ⟨_,_,_,_⟩:=h1;obtain ⟨_,_,_,_⟩:=h2
 unfold wrap64 hiOf loOf rnd val;constructor <;> omega
theorem sub_words {ah al bh bl:Int} (h1:Wf ah al) (h2:Wf bh bl):wrap64 (wrap64 (ah - bh) - bor al bl)=hiOf (rnd (val ah al - val bh bl))∧(al - bl) % 18446744073709551616=loOf (rnd (val ah al - val bh bl)):=by
 obtain ⟨_,_,_,_⟩:=h1;obtain ⟨_,_,_,_⟩:=h2
 unfold wrap64 hiOf loOf rnd val bor;constructor
 ·split <;> omega
 ·omega
abbrev num (n:Int):Value:=.agg #[.int .i64 (hiOf n),.int .u64 (loOf n)]
theorem num_of {n h l:Int} (e:h=hiOf n∧l=loOf n):num n=.agg #[.int .i64 h,.int .u64 l]:=by rw [e.1,e.2]
theorem bel3 (w:World) (o1 o2 o3:Obj):Below w.heap.size w (((w.alloc o1).alloc o2).alloc o3) :=
 (((Below.refl _ _).alloc (Nat.le_refl _) _).alloc (by simp) _).alloc (by simp;omega) _
theorem bel2 (w:World) (o1 o2:Obj):Below w.heap.size w ((w.alloc o1).alloc o2) :=
 ((Below.refl _ _).alloc (Nat.le_refl _) _).alloc (by simp) _
theorem bel1 (w:World) (o1:Obj):Below w.heap.size w (w.alloc o1):=(Below.refl _ _).alloc (Nat.le_refl _) _
theorem add_any (ah al bh bl:Int) (h1:Wf ah al) (h2:Wf bh bl) (w:World) :
  Calls Tryz.prog 88 #[.agg #[.int .i64 ah,.int .u64 al],.agg #[.int .i64 bh,.int .u64 bl]] w fun e w' =>
   e=.returned (num (rnd (val ah al+val bh bl)))∧Below w.heap.size w w':=by
 rw [num_of (add_words h1 h2)]
 obtain ⟨a1,a2,a3,a4⟩:=h1;obtain ⟨b1,b2,b3,b4⟩:=h2
 go_enter Tryz.func88,Tryz.ntmps88
 go_wp2_with (simp only [add64_0 al bl a3 b3])
 simp [bodyPost,results,Tryz.results88,go_sem]
 exact bel3 _ _ _ _
theorem sub_any (ah al bh bl:Int) (h1:Wf ah al) (h2:Wf bh bl) (w:World) :
  Calls Tryz.prog 310 #[.agg #[.int .i64 ah,.int .u64 al],.agg #[.int .i64 bh,.int .u64 bl]] w fun e w' =>
   e=.returned (num (rnd (val ah al - val bh bl)))∧Below w.heap.size w w':=by
 rw [num_of (sub_words h1 h2)]
 obtain ⟨a1,a2,a3,a4⟩:=h1;obtain ⟨b1,b2,b3,b4⟩:=h2
 have k0:=bor_0 al bl
 have k1:=bor_1 al bl
 go_enter Tryz.func310,Tryz.ntmps310
 go_wp2_with (simp only [sub64_0 al bl a3 b3 b4])
 simp [bodyPost,results,Tryz.results310,go_sem]
 exact bel3 _ _ _ _
end Go.Proofs.YtlgkfeeclgcgbaaGreatDoor
/- Own work of the verifier. -/
set_option maxHeartbeats 400000
namespace Go.Proofs.YtlgkfeeclgcgbaaGreatDoor
open Go.RowKit
theorem cmp_lt {ah al bh bl:Int} (h1:Wf ah al) (h2:Wf bh bl) (h:ah < bh):cmp (val ah al) (val bh bl)=-1:=by
 unfold cmp;rw [if_pos ((val_lt h1 h2).2 (Or.inl h))]
theorem cmp_lt' {h al bl:Int} (h1:Wf h al) (h2:Wf h bl) (hl:al < bl):cmp (val h al) (val h bl)=-1:=by
 unfold cmp;rw [if_pos ((val_lt h1 h2).2 (Or.inr ⟨rfl,hl⟩))]
theorem cmp_eq {h l:Int}:cmp (val h l) (val h l)=0:=by unfold cmp;simp
theorem cmp_gt {ah al bh bl:Int} (h1:Wf ah al) (h2:Wf bh bl) (h:¬ (ah < bh∨ah=bh∧al < bl)) (hn:¬ (ah=bh∧al=bl)):cmp (val ah al) (val bh bl)=1:=by
 unfold cmp;rw [if_neg (fun e=>h ((val_lt h1 h2).1 e)),if_neg (fun e=>hn ((val_inj h1 h2).1 e))]
theorem cmp_any (ah al bh bl:Int) (h1:Wf ah al) (h2:Wf bh bl) (w:World) :
  Calls Tryz.prog 82 #[.agg #[.int .i64 ah,.int .u64 al],.agg #[.int .i64 bh,.int .u64 bl]] w fun e w' =>
   e=.returned (.int .i64 (cmp (val ah al) (val bh bl)))∧Below w.heap.size w w':=by
 by_cases c1:ah=bh
 ·subst c1
  by_cases c2:al=bl
  ·subst c2
   rw [cmp_eq]
   clear h1 h2
   go_enter Tryz.func82,Tryz.ntmps82
   go_wp2
   go_ret
   exact ⟨rfl,bel2 _ _ _⟩
  ·have c3:(al == bl)=false:=beq_eq_false_iff_ne.2 c2
   by_cases c4:al < bl
   ·rw [cmp_lt' h1 h2 c4]
    clear h1 h2
    go_enter Tryz.func82,Tryz.ntmps82
    go_wp2
    go_ret
    exact ⟨rfl,bel2 _ _ _⟩
   ·rw [cmp_gt h1 h2 (by omega) (by omega)]
    clear h1 h2
    go_enter Tryz.func82,Tryz.ntmps82
    go_wp2
    go_ret
    exact ⟨rfl,bel2 _ _ _⟩
 ·have c2:(ah == bh)=false:=beq_eq_false_iff_ne.2 c1
  by_cases c3:ah < bh
  ·rw [cmp_lt h1 h2 c3]
   clear h1 h2
   go_enter Tryz.func82,Tryz.ntmps82
   go_wp2
   go_ret
   exact ⟨rfl,bel2 _ _ _⟩
  ·rw [cmp_gt h1 h2 (by omega) (by omega)]
   clear h1 h2
   go_enter Tryz.func82,Tryz.ntmps82
   go_wp2
   go_ret
   exact ⟨rfl,bel2 _ _ _⟩
end Go.Proofs.YtlgkfeeclgcgbaaGreatDoor
/- A RANGE OVER AN ITERATOR THAT HAS CELLS OF ITS OWN: the law. Own work of the verifier. -/
set_option maxHeartbeats 1000000
namespace Go.Proofs.YtlgkfeeclgcgbaaGreatDoor
open Go.RowKit Go.Shelf
structure Mid (n0 B:Nat) (W W':World):Prop where
 os:W'.os=W.os
 tape:W'.tape=W.tape
 output:W'.output=W.output
 size:W.heap.size≤W'.heap.size
 block:∀ k,k < W.heap.size→¬ (n0≤k∧k < B)→W'.heap[k]? =W.heap[k]?
theorem Mid.refl (n0 B:Nat) (W:World):Mid n0 B W W:=⟨rfl,rfl,rfl,Nat.le_refl _,fun _ _ _=>rfl⟩
theorem Mid.trans {n0 B:Nat} {a b c:World} (h:Mid n0 B a b) (k:Mid n0 B b c):Mid n0 B a c :=
 ⟨k.os.trans h.os,k.tape.trans h.tape,k.output.trans h.output,Nat.le_trans h.size k.size,fun i hi hn=>(k.block i (Nat.lt_of_lt_of_le hi h.size) hn).trans (h.block i hi hn)⟩
theorem Mid.of_below {n0 B:Nat} {a b:World} (h:Below a.heap.size a b):Mid n0 B a b:=⟨h.os,h.tape,h.output,h.size,fun k hk _=>h.block k hk⟩
theorem Mid.below {n0 B:Nat} {a w w':World} (h:Mid n0 B a w) (k:Below w.heap.size w w'):Mid n0 B a w':=h.trans (Mid.of_below k)
theorem Mid.drew {n0 B:Nat} {a w:World} (h:Mid n0 B a w):Mid n0 B a w.drew:=h.below (Below.refl _ _).drew
theorem Mid.setCell {n0 B:Nat} {a w:World} (h:Mid n0 B a w) {p:Addr} (hp:(n0≤p.block∧p.block < B)∨a.heap.size≤p.block) (u:Value):Mid n0 B a (w.setCell p u) :=
 ⟨h.os,h.tape,h.output,Nat.le_trans h.size (by simp [World.setCell]),fun k hk hn=>(Below.heap_setCell _ _ _ _ (fun e=>by subst e;rcases hp with hp | hp;exact hn hp;omega)).trans (h.block k hk hn)⟩
theorem Mid.toBelow {n0 B:Nat} {a b:World} (h:Mid n0 B a b) (ha:n0≤a.heap.size):Below n0 a b:=⟨h.os,h.tape,h.output,h.size,fun k hk=>h.block k (by omega) (by omega)⟩
def midPost (n0 B:Nat) (I:Nat→World→Prop) (Ix:Code→Nat→World→Prop) (i:Nat) (W:World):Exit→Act→World→Prop
 | .normal,_,W'=>Mid n0 B W W'∧I i W'
 | .ret,_,W'=>Mid n0 B W W'∧Ix .ret i W'
 | .exit id,_,W'=>Mid n0 B W W'∧Ix (.exit id) i W'
 | .goto t,_,W'=>Mid n0 B W W'∧Ix (.goto t) i W'
 | .panic _,_,_=>False
 | .outgrown,_,_=>False
def Seq (P:Program) (m:Nat) (gf:Nat) (lb:Array Value) (n0 B N:Nat) (encs:Nat→Array Value) (w:World):Prop :=
 ∀ (l:Nat) (J Jx:Nat→World→Prop) (W:World),Below w.heap.size w W→w.heap.size≤W.heap.size →
  (∀ i A A',J i A→Below W.heap.size A A'→J i A')→(∀ i A A',Jx i A→Below W.heap.size A A'→Jx i A') →
  (∀ i W1,i < N→J i W1→YieldAt Fence.wide (m - 1) P l (encs i) W1 fun e W'=>(e=.returned (.bool true)∧Mid n0 B W1 W'∧J (i+1) W')∨(e=.returned (.bool false)∧Jx (i+1) W')) →
  J 0 W →
  CallsIn Fence.wide m P gf (#[.func (.yield l) #[] #[]]++lb) W fun e W'=>(∃ v,e=.returned v)∧(J N W'∨∃ i,i≤N∧Jx i W')
theorem wpIn_rangeFunc_seq {P:Program} {n:Nat} {g:Operand} {ps:Array Tmp} {assign body:Code} {Q:Exit→Act→World→Prop} {a:Act} {w:World}
  {gf:Nat} {lb:Array Value} (hg:a.eval g=.func (.func gf) #[] lb) (eg:∀ args w,(callFunc gf args).run P w=.ok (.enter gf args) w)
  {n0 B N:Nat} {encs:Nat→Array Value} (hB:B≤w.heap.size) (hseq:Seq P (n - 1) gf lb n0 B N encs w) (hps:∀ i,(encs i).size=ps.size)
  (I:Nat→World→Prop) (Ix:Code→Nat→World→Prop) (hI:∀ i A A',I i A→Below w.heap.size A A'→I i A') (hIx:∀ c i A A',Ix c i A→Below w.heap.size A A'→Ix c i A') (h0:I 0 w)
  (hround:∀ (l i:Nat) (W:World),i < N→w.heap.size≤l→l < W.heap.size→I i W →
   assign.wpIn (Fence.wide.inRound l) (n - 1 - 1) P (Exit.then (fun a1 W1=>Below W.heap.size W W1∧∀ W2,I i W2→W2.heap.size=W1.heap.size→(∀ k,k≠l→W2.heap[k]? =W1.heap[k]?) →
    body.wpIn (Fence.wide.inRound l) (n - 1 - 1) P (midPost n0 B I Ix (i+1) W2) a1 W2) (fun _ _ _=>False)) { tmps:=(ps.zip (encs i)).foldl (fun t (p,v)=>t.setIfInBounds p v) a.tmps,defers:=[] } W)
  (hdone:∀ (D:Nat) (W:World),w.heap.size≤D→I N W→W.heap[D]? =some (.deferred (some []))→Q .normal { a with defers:={ target:=.collected D,args:=#[] }::a.defers } W)
  (hstop:∀ (D:Nat) (c:Code) (i:Nat) (W:World),w.heap.size≤D→i≤N→Ix c i W→W.heap[D]? =some (.deferred (some []))→c.wpIn Fence.wide n P Q { a with defers:={ target:=.collected D,args:=#[] }::a.defers } W) :
  (Code.rangeFunc g ps assign body).wpIn Fence.wide n P Q a w:=by
 refine wpIn_rangeFunc ?_
 intro fn hfn
 show ∃ l mark w₁ d w₁' f args w₂,(Instr.enterLoop fn a.tmps ps assign body none).run P w=.ok (l,mark) w₁∧_
 obtain ⟨rec,hrec⟩:∃ rec:LoopState→Option Code→Loop,rec=fun st pe=>{ state:=st,pending:=pe,fn,tmps:=a.tmps,params:=ps,assign,body,defers:=w.heap.size }:=⟨_,rfl⟩
 obtain ⟨W1,hW1⟩:∃ W1,(w.alloc (.deferred (some []))).alloc (.loop (rec .ready none))=W1:=⟨_,rfl⟩
 have hs1:W1.heap.size=w.heap.size+1+1:=by rw [← hW1];simp
 have hL1:W1.heap[w.heap.size+1]? =some (.loop (rec .ready none)):=by
  rw [← hW1];have:=World.alloc_heap_new (w.alloc (.deferred (some []))) (.loop (rec .ready none));rwa [World.size_alloc] at this
 have hK1:W1.heap[w.heap.size]? =some (.deferred (some [])):=by
  rw [← hW1];exact (Below.heap_alloc _ _ _ (by simp)).trans (World.alloc_heap_new w _)
 have hb1:Below w.heap.size w W1:=by
  rw [← hW1];exact ((Below.refl _ w).alloc (Nat.le_refl _) _).alloc (by simp) _
 refine ⟨w.heap.size+1,[{ target:=.collected w.heap.size,args:=#[] }],W1,{ target:=.fn (.func gf) lb,args:=#[.func (.yield (w.heap.size+1)) #[] #[]] },W1,gf,
  #[.func (.yield (w.heap.size+1)) #[] #[]]++lb,W1,?_,?_,?_,?_,?_,?_⟩
 ·rw [← hW1,hrec];exact run_enterLoop_outer _ _ _ _ _
 ·simp only [resolve,hg]
  simp [go_sem]
 ·intro f' _;exact True.intro
 ·simp [invoke,go_sem,eg]
 ·intro h;simp [Fence.wide] at h
 ·have hput:∀ (A:World) (o:Obj),w.heap.size+1 < A.heap.size→Below w.heap.size A (A.putObj (w.heap.size+1) o):=fun A o hlt =>
   (Below.refl _ _).grown (grownBy_putObj' A (w.heap.size+1) o) (by omega) (fun k e=>by cases e;omega)
  refine (hseq (w.heap.size+1)
   (fun i W=>I i W∧W.heap[w.heap.size+1]? =some (.loop (rec .ready none))∧W.heap[w.heap.size]? =some (.deferred (some [])))
   (fun i W=>∃ c,Ix c i W∧W.heap[w.heap.size+1]? =some (.loop (rec .done (some c)))∧W.heap[w.heap.size]? =some (.deferred (some [])))
   W1 hb1 (by omega)
   (fun i A A' hs hb=>⟨hI i A A' hs.1 (hb.mono (by omega)),(hb.block _ (by omega)).trans hs.2.1,(hb.block _ (by omega)).trans hs.2.2⟩)
   (fun i A A' hs hb=>by
    obtain ⟨c,hc,hl,hk⟩:=hs
    exact ⟨c,hIx c i A A' hc (hb.mono (by omega)),(hb.block _ (by omega)).trans hl,(hb.block _ (by omega)).trans hk⟩)
   ?_ ⟨hI 0 w W1 h0 hb1,hL1,hK1⟩).mono ?_
  ·rintro i W hiN ⟨hi,hl,hk⟩
   have hlt:w.heap.size+1 < W.heap.size:=(Array.getElem?_eq_some_iff.1 hl).1
   have hy:=run_yield (P:=P) (args:=encs i) hl (by rw [hrec];exact hps i)
   rw [hrec] at hy
   refine ⟨fn,_,assign,body,hy,roundIn_of_wpIn hfn (wpIn_mono (hround (w.heap.size+1) i W hiN (by omega) hlt hi) ?_)⟩
   clear hy
   rintro e a1 Wa hp
   cases e with
   | normal =>
    obtain ⟨hba,hbody⟩:=hp
    have hla:=(hba.block _ hlt).trans hl
    have hka:=(hba.block w.heap.size (by omega)).trans hk
    have hlta:w.heap.size+1 < Wa.heap.size:=(Array.getElem?_eq_some_iff.1 hla).1
    refine ⟨_,run_beginRound hla (by rw [hrec]),?_⟩
    obtain ⟨W2,hW2⟩:∃ W2,Wa.putObj (w.heap.size+1) (.loop { rec .ready none with state:=.busy })=W2:=⟨_,rfl⟩
    rw [hW2]
    have hl2:W2.heap[w.heap.size+1]? =some (.loop { rec .ready none with state:=.busy }):=by rw [← hW2];exact World.putObj_heap_same hlta
    have hot:∀ k,k≠w.heap.size+1→W2.heap[k]? =Wa.heap[k]?:=fun k hk'=>by rw [← hW2];exact World.putObj_heap_other hk'
    have hs2:W2.heap.size=Wa.heap.size:=by rw [← hW2];simp [World.putObj]
    have hb2:Below w.heap.size Wa W2:=by rw [← hW2];exact hput _ _ hlta
    have hi2:I i W2:=hI i _ _ (hI i _ _ hi (hba.mono (by omega))) hb2
    refine wpIn_mono (hbody W2 hi2 hs2 hot) ?_
    have fin:∀ (jump:Option Code) (W3:World),Mid n0 B W2 W3 →
      (Instr.endRound (w.heap.size+1) jump).run P W3=.ok (.bool jump.isNone) (W3.putObj (w.heap.size+1) (.loop (rec (if jump.isNone then .ready else .done) jump))) ∧
      w.heap.size+1 < W3.heap.size ∧
      (W3.putObj (w.heap.size+1) (.loop (rec (if jump.isNone then .ready else .done) jump))).heap[w.heap.size+1]? =some (.loop (rec (if jump.isNone then .ready else .done) jump)) ∧
      (W3.putObj (w.heap.size+1) (.loop (rec (if jump.isNone then .ready else .done) jump))).heap[w.heap.size]? =some (.deferred (some [])):=fun jump W3 hk3=>by
     have hl3:=(hk3.block _ (by omega) (by omega)).trans hl2
     have hk3':=(hk3.block w.heap.size (by omega) (by omega)).trans ((hot _ (by omega)).trans hka)
     have:=run_endRound (P:=P) jump hl3
     rw [hrec] at this ⊢
     exact ⟨this,(Array.getElem?_eq_some_iff.1 hl3).1,World.putObj_heap_same (Array.getElem?_eq_some_iff.1 hl3).1,(World.putObj_heap_other (by omega)).trans hk3'⟩
    rintro e a3 W3 hp
    cases e with
    | normal =>
     obtain ⟨hk3,hi3⟩:=hp
     obtain ⟨hr,hlt3,hl4,hk4⟩:=fin none W3 hk3
     refine ⟨_,_,hr,.inl ⟨rfl,?_,hI _ _ _ hi3 (hput _ _ hlt3),hl4,hk4⟩⟩
     refine ⟨hk3.os.trans (hb2.os.trans hba.os),hk3.tape.trans (hb2.tape.trans hba.tape),hk3.output.trans (hb2.output.trans hba.output),?_,fun k hkW hkn=>?_⟩
     ·have e1:(W3.putObj (w.heap.size+1) (.loop (rec .ready none))).heap.size=W3.heap.size:=by simp [World.putObj]
      exact Nat.le_trans (Nat.le_trans hba.size (by rw [← hs2];exact hk3.size)) (Nat.le_of_eq e1.symm)
     ·by_cases ek:k=w.heap.size+1
      ·subst ek;exact hl4.trans hl.symm
      ·exact (World.putObj_heap_other ek).trans ((hk3.block k (by have:=hba.size;omega) hkn).trans ((hot k ek).trans (hba.block k hkW)))
    | ret =>
     obtain ⟨hk3,hi3⟩:=hp
     obtain ⟨hr,hlt3,hl4,hk4⟩:=fin (some .ret) W3 hk3
     exact ⟨_,_,hr,.inr ⟨rfl,.ret,hIx _ _ _ _ hi3 (hput _ _ hlt3),hl4,hk4⟩⟩
    | exit id =>
     obtain ⟨hk3,hi3⟩:=hp
     obtain ⟨hr,hlt3,hl4,hk4⟩:=fin (some (.exit id)) W3 hk3
     exact ⟨_,_,hr,.inr ⟨rfl,.exit id,hIx _ _ _ _ hi3 (hput _ _ hlt3),hl4,hk4⟩⟩
    | goto t =>
     obtain ⟨hk3,hi3⟩:=hp
     obtain ⟨hr,hlt3,hl4,hk4⟩:=fin (some (.goto t)) W3 hk3
     exact ⟨_,_,hr,.inr ⟨rfl,.goto t,hIx _ _ _ _ hi3 (hput _ _ hlt3),hl4,hk4⟩⟩
    | panic ch=>exact hp.elim
    | outgrown=>exact hp.elim
   | ret=>exact hp.elim
   | exit id=>exact hp.elim
   | goto t=>exact hp.elim
   | panic ch=>exact hp.elim
   | outgrown=>exact hp.elim
  ·rintro e W2 ⟨⟨v,rfl⟩,(⟨hi,hl,hk⟩ | ⟨i,hiN,c,hi,hl,hk⟩)⟩
   ·have hlt:w.heap.size+1 < W2.heap.size:=(Array.getElem?_eq_some_iff.1 hl).1
    exact ⟨none,_,by have:=run_endLoop (P:=P) hl (by rw [hrec];simp);rw [hrec] at this;exact this,hdone _ _ (Nat.le_refl _) (hI _ _ _ hi (hput _ _ hlt)) ((World.putObj_heap_other (by omega)).trans hk)⟩
   ·have hlt:w.heap.size+1 < W2.heap.size:=(Array.getElem?_eq_some_iff.1 hl).1
    exact ⟨some c,_,by have:=run_endLoop (P:=P) hl (by rw [hrec];simp);rw [hrec] at this;exact this,hstop _ c i _ (Nat.le_refl _) hiN (hIx _ _ _ _ hi (hput _ _ hlt)) ((World.putObj_heap_other (by omega)).trans hk)⟩
end Go.Proofs.YtlgkfeeclgcgbaaGreatDoor
/- Own work of the verifier. -/
set_option maxHeartbeats 400000
namespace Go.Proofs.YtlgkfeeclgcgbaaGreatDoor
open Go.RowKit
theorem of_words {n:Int} (h1:-9223372036854775808≤n) (h2:n≤9223372036854775807):n / 9223372036854775808=hiOf n∧IntKind.u64.wrap n=loOf n:=by
 rw [IntKind.wrap_u64];unfold hiOf loOf;constructor <;> omega
theorem of_any (n:Int) (h1:-9223372036854775808≤n) (h2:n≤9223372036854775807) (w:World) :
  Calls Tryz.prog 114 #[.int .i64 n] w fun e w'=>e=.returned (num n)∧Below w.heap.size w w':=by
 rw [num_of (of_words h1 h2)]
 go_enter Tryz.func114,Tryz.ntmps114
 go_wp2
 simp [bodyPost,results,Tryz.results114,go_sem]
 exact bel1 _ _
theorem uns_any (n:Int) (h1:0≤n) (h2:n < 18446744073709551616) (w:World) :
  Calls Tryz.prog 137 #[.int .u64 n] w fun e w'=>e=.returned (num n)∧Below w.heap.size w w':=by
 rw [num_of (h:=0) (l:=n) (by unfold hiOf loOf;constructor <;> omega)]
 go_enter Tryz.func137,Tryz.ntmps137
 go_wp2
 simp [bodyPost,results,Tryz.results137,go_sem]
 exact bel1 _ _
end Go.Proofs.YtlgkfeeclgcgbaaGreatDoor
