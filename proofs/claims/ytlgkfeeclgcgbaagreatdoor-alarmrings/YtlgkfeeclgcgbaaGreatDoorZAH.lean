/- THE DIGITS LAID INTO A ROW OF BYTES, and zeros behind them left out. Own work of the verifier. -/
import Derived.Test.YtlgkfeeclgcgbaaGreatDoorZAG
import Derived.OwnWalk
import Derived.Handy
import Derived.LoopN
import Derived.Lib.ItoaMem
import Derived.Lib.ItoaLen
import Derived.Maps.AppendAt
import Derived.Deep.AppendLies
set_option maxRecDepth 100000
set_option maxHeartbeats 1000000
namespace Go.Proofs.YtlgkfeeclgcgbaaGreatDoor.Rl
open Go.RowKit Go.Sort
def byteV (b:UInt8):Value:=.int .u8 (b.toNat:Int)
abbrev Tab (w:World):Prop:=Lib.TabIs Tryz.prog w "internal/strconv.uint64pow10" .u64 Lib.pow10Tab
def DigAt (g u:Nat) (w:World):Prop:=∃ arr,w.heap[g]? =some (.cells arr 297)∧arr.size=32∧∀ j (h:j < (Lib.decDigits u).length),arr[j]? =some (byteV (Lib.decDigits u)[j])
theorem DigAt.cell {g u:Nat} {w:World} (h:DigAt g u w) (j:Nat) (hj:j < (Lib.decDigits u).length):w.cell? ⟨g,j,none⟩=some (byteV (Lib.decDigits u)[j]):=by
 obtain ⟨arr,h1,h0,h2⟩:=h
 simp [World.cell?,h1,h2 j hj]
theorem drewN_heap (w:World) (q:Nat):(w.drewN q).heap=w.heap:=by
 induction q with
 | zero=>rfl
 | succ q ih=>exact ih
theorem drewN_rest (w:World) (q:Nat):(w.drewN q).os=w.os∧(w.drewN q).tape=w.tape∧(w.drewN q).output=w.output:=by
 induction q with
 | zero=>exact ⟨rfl,rfl,rfl⟩
 | succ q ih=>exact ih
theorem DigAt.drewN {g u:Nat} {w:World} (h:DigAt g u w) (q:Nat):DigAt g u (w.drewN q):=by
 unfold DigAt at h ⊢
 rw [drewN_heap];exact h
theorem grown_drewN {w w1:World} {row:Option Nat} (h:w.grownBy w1 row) (q:Nat):w.grownBy (w1.drewN q) row:=by
 obtain ⟨a,b,c⟩:=drewN_rest w1 q
 exact ⟨a.trans h.os,b.trans h.tape,c.trans h.output,by rw [drewN_heap];exact h.size,fun i hi hr=>by rw [drewN_heap];exact h.block i hi hr⟩
theorem laid_digits {g u n q v':Nat} {w:World} {dk:Array UInt8} (hob:w.heap[g]? =some (.cells (Array.replicate 32 (.int .u8 0)) 297)) (hN:Lib.nDigits u=n) (hfi:Lib.FmtInv n u 0 v' dk) (hn:n≤20) :
  DigAt g u ((putRow (fun (b:UInt8)=>Value.int .u8 (b.toNat:Int)) w g 0 dk).drewN q)∧w.grownBy ((putRow (fun (b:UInt8)=>Value.int .u8 (b.toNat:Int)) w g 0 dk).drewN q) (some g)∧((putRow (fun (b:UInt8)=>Value.int .u8 (b.toNat:Int)) w g 0 dk).drewN q).heap.size=w.heap.size:=by
 have hg:g < w.heap.size:=by
  rcases Nat.lt_or_ge g w.heap.size with h | h
  ·exact h
  ·rw [Array.getElem?_eq_none h] at hob;cases hob
 have hsz:=hfi.size
 refine ⟨?_,grown_drewN ?_ q,by rw [drewN_heap];simp⟩
 ·refine DigAt.drewN ?_ q
  refine ⟨putCells (fun (b:UInt8)=>Value.int .u8 (b.toNat:Int)) 0 dk (Array.replicate 32 (.int .u8 0)),?_,by simp [putCells],?_⟩
  ·simp [putRow,mapBlock,Array.getElem?_modify,hob,onCells]
  ·intro j hj
   have hj':j < n:=by rw [Lib.decDigits_length,hN] at hj;exact hj
   subst hN
   rw [Lib.row_is_numeral hfi j hj]
   simp [putCells,show j < 32 by omega,show j < dk.size by omega,byteV]
 ·refine ⟨rfl,rfl,rfl,by simp,fun i hi hr=>?_⟩
  simp only [putRow,mapBlock]
  rw [Array.getElem?_modify,if_neg (fun h=>hr (by rw [h]))]
theorem setDigits_any (g u:Nat) (p:Int) (w:World) (hob:w.heap[g]? =some (.cells (Array.replicate 32 (.int .u8 0)) 297)) (h2:u < 18446744073709551616) (hp0:-100000≤p) (hp1:p≤100000) :
  Calls Tryz.prog 200 #[.slice (some ⟨g,0,none⟩) 32 32,.int .u64 (u:Int),.int .i64 p,.int .i64 (Lib.nDigits u:Int)] w fun r w'=>∃ k:Nat,k≤Lib.nDigits u∧(∀ j (h:j < (Lib.decDigits u).length),k≤j→(Lib.decDigits u)[j]=48)∧(k=0∨∃ h:k - 1 < (Lib.decDigits u).length,(Lib.decDigits u)[k - 1]≠48) ∧
   r=.returned (.tuple #[.int .i64 ((Lib.nDigits u:Int)+p),.int .i64 (k:Int)])∧DigAt g u w'∧w.grownBy w' (some g)∧w'.heap.size=w.heap.size:=by
 obtain ⟨n,hN⟩:∃ n,Lib.nDigits u=n:=⟨_,rfl⟩
 have hn:n≤20:=by rw [← hN];exact Lib.nDigits_le20 u h2
 have hlen:(Lib.decDigits u).length=n:=by rw [Lib.decDigits_length,hN]
 have HLEN:Hid _:=hlen
 clear hlen
 have hH:Holds (fun (b:UInt8)=>Value.int .u8 (b.toNat:Int)) w g 0 (Array.replicate n (0:UInt8)):=by
  intro j hj
  simp at hj
  have:j < 32:=by omega
  refine ⟨?_,?_⟩
  ·simp [World.cell?,hob,this,hj]
  ·simp [World.frozen?,hob]
 have hF:=Tryz.internal_strconv_formatBase10 g 0 32 u (Array.replicate n (0:UInt8)) w hH (by simp;rw [← hN];exact Lib.lt_pow_nDigits u) h2 (by simp;omega)
 rw [Array.size_replicate] at hF
 have HF:Hid (Calls Tryz.prog 211 #[.slice (some ⟨g,0,none⟩) n 32,.int .u64 (u:Int)] w fun e w' =>
   e=.returned (.tuple #[])∧∃ (q v':Nat) (dk:Array UInt8),w'=(putRow (fun (b:UInt8)=>Value.int .u8 (b.toNat:Int)) w g 0 dk).drewN q∧Lib.FmtInv n u 0 v' dk):=hF
 clear hF
 rw [hN]
 go_enter Tryz.func200,Tryz.ntmps200
 go_wp2_with fail
 refine HF.out.mono ?_
 rintro r w1 ⟨rfl,q,v',dk,hw1,hfi⟩
 obtain ⟨hD,hgr,hsz⟩:=laid_digits (q:=q) hob hN hfi hn
 rw [← hw1] at hD hgr hsz
 clear hw1 hfi HF hH hob
 go_wp2
 go_loopw [3] (fun a wr=>∃ k:Nat,k≤n∧a=.int .i64 k∧(∀ j (h:j < (Lib.decDigits u).length),k≤j→(Lib.decDigits u)[j]=48)∧wr=w1) (fun a _=>(intOf a).toNat)
 case atStart=>exact ⟨n,Nat.le_refl _,rfl,fun j h hj=>by have:=HLEN.out;omega,rfl⟩
 case round =>
  obtain ⟨k,hk,rfl,hz,rfl⟩:=hrel
  have HZ:Hid _:=hz
  clear hz
  cases k with
  | zero =>
   go_wp2
   go_ret2
   exact ⟨0,by omega,HZ.out,Or.inl rfl,rfl,hD,hgr,hsz⟩
  | succ j =>
   have hj:j < (Lib.decDigits u).length:=by have:=HLEN.out;omega
   have hc:=hD.cell j hj
   unfold byteV at hc
   obtain ⟨b,hb⟩:∃ b,(Lib.decDigits u)[j]=b:=⟨_,rfl⟩
   rw [hb] at hc
   have HB:Hid ((Lib.decDigits u)[j]=b):=hb
   have hbl:b.toNat < 256:=b.toNat_lt
   clear hb
   by_cases h48:b.toNat=48
   ·rw [h48] at hc
    go_wp2
    go_roundw
    case rel =>
     refine ⟨j,by omega,by go_num,fun i hi hji=>?_,by first | rfl | trivial⟩
     rcases Nat.lt_or_eq_of_le hji with h | h
     ·exact HZ.out i hi h
     ·subst h;rw [HB.out];exact UInt8.toNat_inj.1 h48
    case measure=>simp [intOf]
   ·have hne:((b.toNat:Int) == 48)=false:=by rw [beq_eq_false_iff_ne];omega
    go_wp2
    go_ret2
    refine ⟨j+1,hk,HZ.out,Or.inr ⟨hj,?_⟩,rfl,hD,hgr,hsz⟩
    intro h
    have h:(Lib.decDigits u)[j]=48:=h
    rw [HB.out] at h
    rw [h] at h48
    exact h48 rfl
end Go.Proofs.YtlgkfeeclgcgbaaGreatDoor.Rl
/- A ROW OF BYTES THAT GROWS, and the digits beside it. Own work of the verifier. -/
namespace Go.Proofs.YtlgkfeeclgcgbaaGreatDoor.Rl
open Go.RowKit Go.Sort
structure Buf (B:Nat) (o:Option (Nat × Nat)) (W0:World) (v:Value) (zs:List Int) (w:World):Prop where
 own:w.ownsRow B 5 1 v zs.length (zs.map (Value.int .u8))
 nz:v≠.slice none 0 0
 below:Below B W0 w
 size:B≤w.heap.size
 len:zs.length≤1000
 dig:∀ g u,o=some (g,u)→DigAt g u w
theorem own_of {w:World} {B:Nat} {e:TypeId} {v:Value} {n:Nat} {xs:List Value} (h:w.ownsRow B e 1 v n xs) (hn:v≠.slice none 0 0):∃ g cap cur,v=.slice (some ⟨g,0,none⟩) n cap∧B≤g∧w.heap[g]? =some (.cells cur e):=by
 rcases h.2 with h2 | ⟨g,cap,cur,hv,hg,hh,_⟩
 ·exact absurd h2.1 hn
 ·exact ⟨g,cap,cur,hv,hg,hh⟩
theorem Buf.grow {B:Nat} {o:Option (Nat × Nat)} {W0 w w1 w':World} {v v':Value} {zs news:List Int} (h:Buf B o W0 v zs w) (hw:w.grownBy w1 none) (m:Nat) (hm:news.length=m)
  (hown:w'.ownsRow B 5 1 v' (zs.length+m) (zs.map (Value.int .u8)++news.map (Value.int .u8))) (hg:w1.grownBy w' v.ownBlock) (hnil:v'=.slice none 0 0 ↔ v=.slice none 0 0∧m=0) (hl:(zs++news).length≤1000):Buf B o W0 v' (zs++news) w':=by
 obtain ⟨gv,cap,cur,rfl,hB,hcur⟩:=own_of h.own h.nz
 have hg':w1.grownBy w' (some gv):=hg
 have hlt:gv < w.heap.size:=by
  rcases Nat.lt_or_ge gv w.heap.size with k | k
  ·exact k
  ·rw [Array.getElem?_eq_none k] at hcur;cases hcur
 have s1:=hw.size
 have s2:=hg'.size
 refine ⟨?_,fun e=>h.nz (hnil.1 e).1,?_,by have:=h.size;omega,hl,?_⟩
 ·rw [List.length_append,hm,List.map_append];exact hown
 ·exact (h.below.grown hw h.size (fun k e=>by cases e)).grown hg' (by have:=h.size;omega) (fun k e=>by cases e;exact hB)
 ·intro g u e
  obtain ⟨arr,h1,h0,h2⟩:=h.dig g u e
  have hne:g≠gv:=fun e=>by rw [e,hcur] at h1;cases h1
  have hgl:g < w.heap.size:=by
   rcases Nat.lt_or_ge g w.heap.size with k | k
   ·exact k
   ·rw [Array.getElem?_eq_none k] at h1;cases h1
  refine ⟨arr,?_,h0,h2⟩
  rw [hg'.block g (by omega) (fun e=>hne (Option.some.inj e)),hw.block g hgl (by simp),h1]
theorem Buf.push {B:Nat} {o:Option (Nat × Nat)} {W0 w w':World} {v v':Value} {zs:List Int} {z:Int} (h:Buf B o W0 v zs w) (ob:Obj)
  (hown:w'.ownsRow B 5 1 v' (zs.length+1) (zs.map (Value.int .u8)++[.int .u8 z])) (hg:(w.alloc ob).grownBy w' v.ownBlock) (hnil:v'=.slice none 0 0 ↔ v=.slice none 0 0∧1=0) (hl:(zs++[z]).length≤1000):Buf B o W0 v' (zs++[z]) w' :=
 h.grow (World.grownBy_alloc w ob none) 1 rfl hown hg hnil hl
theorem infoByte:(Tryz.prog.info? 5).map (fun i=>(i.zero,i.size,i.bytes))=some (some (.int .u8 0),1,1):=by kernel_rfl
end Go.Proofs.YtlgkfeeclgcgbaaGreatDoor.Rl
/- THE TEXT WITH AN EXPONENT, as the library writes it. Own work of the verifier. -/
set_option maxRecDepth 100000
set_option maxHeartbeats 4000000
namespace Go.Proofs.YtlgkfeeclgcgbaaGreatDoor.Rl
open Go.RowKit Go.Sort
def dI (u:Nat):List Int:=(Lib.decDigits u).map fun b=>(b.toNat:Int)
theorem dI_length (u:Nat):(dI u).length=Lib.nDigits u:=by rw [dI,List.length_map,Lib.decDigits_length]
theorem DigAt.int {g u:Nat} {w:World} (h:DigAt g u w) (j:Nat) (hj:j < (dI u).length):w.cell? ⟨g,j,none⟩=some (.int .u8 ((dI u)[j])):=by
 have hj':j < (Lib.decDigits u).length:=by simpa [dI] using hj
 rw [h.cell j hj']
 simp [dI,byteV]
theorem cell_two_new (w:World) (x y:Value) (t:TypeId):∀ j u,[x,y][j]? =some u→(w.alloc (.cells #[x,y] t)).cell? ((⟨w.heap.size,0,none⟩:Addr).add j)=some u:=by
 intro j u hj
 match j,hj with
 | 0,hj=>simp at hj;subst hj;simp [go_sem]
 | 1,hj=>simp at hj;subst hj;simp [go_sem]
 | k+2,hj=>simp at hj
theorem cell_three_new (w:World) (x y z:Value) (t:TypeId):∀ j u,[x,y,z][j]? =some u→(w.alloc (.cells #[x,y,z] t)).cell? ((⟨w.heap.size,0,none⟩:Addr).add j)=some u:=by
 intro j u hj
 match j,hj with
 | 0,hj=>simp at hj;subst hj;simp [go_sem]
 | 1,hj=>simp at hj;subst hj;simp [go_sem]
 | 2,hj=>simp at hj;subst hj;simp [go_sem]
 | k+3,hj=>simp at hj
theorem Buf.push2 {B:Nat} {o:Option (Nat × Nat)} {W0 w w':World} {v v':Value} {zs:List Int} {x y:Int} (h:Buf B o W0 v zs w) (ob:Obj)
  (hown:w'.ownsRow B 5 1 v' (zs.length+2) (zs.map (Value.int .u8)++[.int .u8 x,.int .u8 y])) (hg:(w.alloc ob).grownBy w' v.ownBlock) (hnil:v'=.slice none 0 0 ↔ v=.slice none 0 0∧2=0) (hl:(zs++[x,y]).length≤1000):Buf B o W0 v' (zs++[x,y]) w' :=
 h.grow (World.grownBy_alloc w ob none) 2 rfl hown hg hnil hl
theorem Buf.push3 {B:Nat} {o:Option (Nat × Nat)} {W0 w w':World} {v v':Value} {zs:List Int} {x y z:Int} (h:Buf B o W0 v zs w) (ob:Obj)
  (hown:w'.ownsRow B 5 1 v' (zs.length+3) (zs.map (Value.int .u8)++[.int .u8 x,.int .u8 y,.int .u8 z])) (hg:(w.alloc ob).grownBy w' v.ownBlock) (hnil:v'=.slice none 0 0 ↔ v=.slice none 0 0∧3=0) (hl:(zs++[x,y,z]).length≤1000):Buf B o W0 v' (zs++[x,y,z]) w' :=
 h.grow (World.grownBy_alloc w ob none) 3 rfl hown hg hnil hl
theorem Buf.mid {B g u:Nat} {W0 w:World} {v:Value} {zs mid:List Int} (h:Buf B (some (g,u)) W0 v zs w) (a:Nat) (hm:∀ j (hj:j < mid.length),(dI u)[a+j]? =some mid[j]) :
  ∀ j x,(mid.map (Value.int .u8))[j]? =some x→w.cell? ((⟨g,a,none⟩:Addr).add j)=some x:=by
 intro j x hx
 have hj:j < mid.length:=by simpa using (List.getElem?_eq_some_iff.1 hx).1
 have e:=hm j hj
 obtain ⟨hlt,e⟩:=List.getElem?_eq_some_iff.1 e
 have:=(h.dig g u rfl).int (a+j) hlt
 rw [e] at this
 rw [Addr.add_lit,this]
 simp [hj] at hx
 rw [hx]
theorem Buf.at0 {B g u:Nat} {W0 w:World} {v:Value} {zs:List Int} {d0:Int} (h:Buf B (some (g,u)) W0 v zs w) (h0:(dI u)[0]? =some d0):w.cell? ⟨g,0,none⟩=some (.int .u8 d0):=by
 obtain ⟨hlt,e⟩:=List.getElem?_eq_some_iff.1 h0
 rw [(h.dig g u rfl).int 0 hlt,e]
def eDig (E:Nat):List Int:=if E < 10 then [48,(E:Int)+48] else if E < 100 then [(E:Int) / 10+48,(E:Int) % 10+48] else [(E:Int) / 100+48,(E:Int) / 10 % 10+48,(E:Int) % 10+48]
def eTail (dp:Int):List Int:=if dp - 1 < 0 then 101::45::eDig (1 - dp).toNat else 101::43::eDig (dp - 1).toNat
theorem fmtE_one (neg:Bool) (B g u E:Nat) (dp d0:Int) (W0 w:World) (v:Value) (hbuf:Buf B (some (g,u)) W0 v [] w) (h0:(dI u)[0]? =some d0) (hdp:dp - 1=(E:Int)∨dp - 1 < 0∧1 - dp=(E:Int)) (hE:E≤400) :
  Calls Tryz.prog 197 #[v,.bool neg,.slice (some ⟨g,0,none⟩) 32 32,.int .i64 dp,.int .i64 1,.int .i64 0,.int .u8 101,.bool true] w fun r w'=>∃ v',r=.returned v'∧Buf B (some (g,u)) W0 v' ((if neg then [45,d0] else [d0])++eTail dp) w':=by
 obtain ⟨i0,hi,hz0,hz1,hz2⟩:=info_parts infoByte
 have ht:(dp - 1=(E:Int)∧eTail dp=101::43::eDig E)∨(dp - 1 < 0∧-(dp - 1)=(E:Int)∧eTail dp=101::45::eDig E):=by
  unfold eTail
  rcases hdp with h | ⟨h,k⟩
  ·rw [if_neg (by omega),show (dp - 1).toNat=E from by omega];exact Or.inl ⟨h,rfl⟩
  ·rw [if_pos h,show (1 - dp).toNat=E from by omega];exact Or.inr ⟨h,by omega,rfl⟩
 have hr:(E < 10∧eDig E=[48,(E:Int)+48])∨(10≤E∧E < 100∧eDig E=[(E:Int) / 10+48,(E:Int) % 10+48])∨(100≤E∧eDig E=[(E:Int) / 100+48,(E:Int) / 10 % 10+48,(E:Int) % 10+48]):=by
  unfold eDig
  by_cases h1:E < 10
  ·exact Or.inl ⟨h1,if_pos h1⟩
  ·rw [if_neg h1]
   by_cases h2:E < 100
   ·exact Or.inr (Or.inl ⟨by omega,h2,if_pos h2⟩)
   ·exact Or.inr (Or.inr ⟨by omega,if_neg h2⟩)
 clear hdp
 have hd:=hbuf.at0 h0
 have H0:Hid _:=h0
 clear h0
 cases neg
 all_goals
  rcases ht with ⟨hp,ht⟩ | ⟨hp0,hp,ht⟩
  all_goals
   rcases hr with ⟨r1,r2⟩ | ⟨r0,r1,r2⟩ | ⟨r0,r2⟩
   all_goals
    rw [ht,r2]
    clear ht r2
    go_enter Tryz.func197,Tryz.ntmps197
    go_wp2_with (first
     | (at_builtin;refine wpList_append_own _ rfl _ _ 146 rfl B 5 i0 (.int .u8 0) 1 1 Tryz.underlying146 hi hz0 hz1 hz2 rfl (by decide) _ _ _ rfl (hbuf.own.alloc _) ⟨_,0,none⟩ 1 1 [_] rfl rfl (cell_one_new _ _ _) (by intro u hu;simp at hu;subst hu;rfl) (by have:=hbuf.len;unfold maxLen;omega) (by have:=hbuf.len;omega) (by have:=hbuf.size;simp;omega) ?_;intro v w hown hgrow hnil;have hbuf:=hbuf.push _ hown hgrow hnil (by simp);have hd:=hbuf.at0 H0.out;clear hown hgrow hnil)
     | (at_builtin;refine wpList_append_own _ rfl _ _ 146 rfl B 5 i0 (.int .u8 0) 1 1 Tryz.underlying146 hi hz0 hz1 hz2 rfl (by decide) _ _ _ rfl (hbuf.own.alloc _) ⟨_,0,none⟩ 2 2 [_,_] rfl rfl (cell_two_new _ _ _ _) (by intro u hu;simp at hu;rcases hu with rfl | rfl <;> rfl) (by have:=hbuf.len;unfold maxLen;omega) (by have:=hbuf.len;omega) (by have:=hbuf.size;simp;omega) ?_;intro v w hown hgrow hnil;have hbuf:=hbuf.push2 _ hown hgrow hnil (by simp);clear hown hgrow hnil)
     | (at_builtin;refine wpList_append_own _ rfl _ _ 146 rfl B 5 i0 (.int .u8 0) 1 1 Tryz.underlying146 hi hz0 hz1 hz2 rfl (by decide) _ _ _ rfl (hbuf.own.alloc _) ⟨_,0,none⟩ 3 3 [_,_,_] rfl rfl (cell_three_new _ _ _ _ _) (by intro u hu;simp at hu;rcases hu with rfl | rfl | rfl <;> rfl) (by have:=hbuf.len;unfold maxLen;omega) (by have:=hbuf.len;omega) (by have:=hbuf.size;simp;omega) ?_;intro v w hown hgrow hnil;have hbuf:=hbuf.push3 _ hown hgrow hnil (by simp);clear hown hgrow hnil)
     | fail)
    go_ret
    exact ⟨_,rfl,by simpa using hbuf⟩
end Go.Proofs.YtlgkfeeclgcgbaaGreatDoor.Rl
/- THE TEXT WITHOUT AN EXPONENT, as the library writes it. Own work of the verifier. -/
set_option maxRecDepth 100000
set_option maxHeartbeats 4000000
namespace Go.Proofs.YtlgkfeeclgcgbaaGreatDoor.Rl
open Go.RowKit Go.Sort
theorem take_one (l:List Int) (j:Nat) (h:j < l.length):l.take (j+1)=l.take j++[l[j]]:=List.take_succ_eq_append_getElem h
theorem rep_one (j:Nat):List.replicate (j+1) (48:Int)=List.replicate j 48++[48]:=List.replicate_succ'
theorem fmtF_whole (neg:Bool) (B g u k D:Nat) (W0 w:World) (v:Value) (hbuf:Buf B (some (g,u)) W0 v [] w) (hk0:1≤k) (hk:k≤(dI u).length) (hk2:k≤20) (hkD:k≤D) (hD:D≤400) :
  Calls Tryz.prog 197 #[v,.bool neg,.slice (some ⟨g,0,none⟩) 32 32,.int .i64 (D:Int),.int .i64 (k:Int),.int .i64 0,.int .u8 102,.bool true] w fun r w'=>∃ v',r=.returned v'∧Buf B (some (g,u)) W0 v' ((if neg then [45] else [])++(dI u).take k++List.replicate (D - k) 48) w':=by
 obtain ⟨i0,hi,hz0,hz1,hz2⟩:=info_parts infoByte
 have hmin:min (k:Int) (D:Int)=(k:Int):=by omega
 have hD0:decide (0 < D)=true:=decide_eq_true (by omega)
 obtain ⟨R,hR⟩:∃ R:Nat,D - k=R:=⟨_,rfl⟩
 have hRi:(D:Int) - (k:Int)=(R:Int):=by omega
 have hR2:R≤400:=by omega
 rw [hR]
 obtain ⟨pre,HPRE⟩:∃ pre:List Int,Hid (pre=if neg then [45] else []):=⟨_,rfl⟩
 have hpl:pre.length≤1:=by rw [HPRE.out];cases neg <;> decide
 rw [← HPRE.out]
 cases neg
 all_goals
  go_enter Tryz.func197,Tryz.ntmps197
  go_wp2_with (first
   | (at_builtin;refine wpList_append_own _ rfl _ _ 146 rfl B 5 i0 (.int .u8 0) 1 1 Tryz.underlying146 hi hz0 hz1 hz2 rfl (by decide) _ _ _ rfl (hbuf.own.alloc _) ⟨_,0,none⟩ 1 1 [_] rfl rfl (cell_one_new _ _ _) (by intro u hu;simp at hu;subst hu;rfl) (by have:=hbuf.len;unfold maxLen;omega) (by have:=hbuf.len;omega) (by have:=hbuf.size;simp;omega) ?_;intro v w hown hgrow hnil;have hbuf:=hbuf.push _ hown hgrow hnil (by simp);clear hown hgrow hnil)
   | fail)
  have hbuf:Buf B (some (g,u)) W0 v pre w:=by rw [HPRE.out];exact hbuf
  go_loopw [191,0,25] (fun a v _ wr=>∃ j:Nat,j≤k∧a=.int .i64 j∧Buf B (some (g,u)) W0 v (pre++(dI u).take j) wr) (fun a _ _ _=>k - (intOf a).toNat)
  case atStart=>exact ⟨0,Nat.zero_le _,rfl,by simpa using hbuf⟩
  case round =>
   obtain ⟨j,hj,rfl,hbuf⟩:=hrel
   rcases Nat.lt_or_eq_of_le hj with hlt | heq
   ·have hc:=(hbuf.dig g u rfl).int j (by omega)
    have HX:Hid _:=take_one (dI u) j (by omega)
    generalize (dI u)[j]=x at *
    go_wp2_with (first
     | (at_builtin;refine wpList_append_own _ rfl _ _ 146 rfl B 5 i0 (.int .u8 0) 1 1 Tryz.underlying146 hi hz0 hz1 hz2 rfl (by decide) _ _ _ rfl (hbuf.own.alloc _) ⟨_,0,none⟩ 1 1 [_] rfl rfl (cell_one_new _ _ _) (by intro u hu;simp at hu;subst hu;rfl) (by have:=hbuf.len;unfold maxLen;omega) (by have:=hbuf.len;omega) (by have:=hbuf.size;simp;omega) ?_;intro v w hown hgrow hnil;have hbuf:=hbuf.push _ hown hgrow hnil (by simp;omega);clear hown hgrow hnil)
     | fail)
    go_roundw
    case rel=>exact ⟨j+1,by omega,by go_num,by rw [HX.out,← List.append_assoc];exact hbuf⟩
    case measure=>simp [intOf];omega
   ·subst heq
    have hlen:(pre++(dI u).take j).length≤21:=by simp;omega
    obtain ⟨zs,hzs⟩:∃ zs,pre++(dI u).take j=zs:=⟨_,rfl⟩
    rw [hzs] at hbuf hlen
    have HZ:Hid _:=hzs
    clear hzs
    go_wp2_with fail
    go_loopw [203,0] (fun a v wr=>∃ i:Nat,i≤R∧a=.int .i64 i∧Buf B (some (g,u)) W0 v (zs++List.replicate i 48) wr) (fun a _ _=>R - (intOf a).toNat)
    case atStart=>exact ⟨0,Nat.zero_le _,rfl,by simpa using hbuf⟩
    case round =>
     obtain ⟨i,hir,rfl,hbuf⟩:=hrel
     rcases Nat.lt_or_eq_of_le hir with hlt2 | heq2
     ·go_wp2_with (first
       | (at_builtin;refine wpList_append_own _ rfl _ _ 146 rfl B 5 i0 (.int .u8 0) 1 1 Tryz.underlying146 hi hz0 hz1 hz2 rfl (by decide) _ _ _ rfl (hbuf.own.alloc _) ⟨_,0,none⟩ 1 1 [_] rfl rfl (cell_one_new _ _ _) (by intro u hu;simp at hu;subst hu;rfl) (by have:=hbuf.len;unfold maxLen;omega) (by have:=hbuf.len;omega) (by have:=hbuf.size;simp;omega) ?_;intro v w hown hgrow hnil;have hbuf:=hbuf.push _ hown hgrow hnil (by simp;omega);clear hown hgrow hnil)
       | fail)
      go_roundw
      case rel=>exact ⟨i+1,by omega,by go_num,by rw [rep_one,← List.append_assoc];exact hbuf⟩
      case measure=>simp [intOf];omega
     ·subst heq2
      go_wp2_with fail
      go_ret
      exact ⟨_,rfl,by rw [HZ.out];exact hbuf⟩
end Go.Proofs.YtlgkfeeclgcgbaaGreatDoor.Rl
/- THE TEXT OF A FLOAT BELOW 1, as the library writes it. Own work of the verifier. -/
set_option maxRecDepth 100000
set_option maxHeartbeats 4000000
namespace Go.Proofs.YtlgkfeeclgcgbaaGreatDoor.Rl
open Go.RowKit Go.Sort
theorem fmtF_below (neg:Bool) (B g u k Z P:Nat) (dp:Int) (W0 w:World) (v:Value) (hbuf:Buf B (some (g,u)) W0 v [] w) (hk0:1≤k) (hk:k≤(dI u).length) (hk2:k≤20) (hZ:Z≤400) (hdp:-dp=(Z:Int)) (hP:P=k+Z) :
  Calls Tryz.prog 197 #[v,.bool neg,.slice (some ⟨g,0,none⟩) 32 32,.int .i64 dp,.int .i64 (k:Int),.int .i64 (P:Int),.int .u8 102,.bool true] w fun r w'=>∃ v',r=.returned v'∧Buf B (some (g,u)) W0 v' ((if neg then [45] else [])++[48,46]++List.replicate Z 48++(dI u).take k) w':=by
 obtain ⟨i0,hi,hz0,hz1,hz2⟩:=info_parts infoByte
 have hdp1:decide (0 < dp)=false:=decide_eq_false (by omega)
 have hP0:decide (0 < P)=true:=decide_eq_true (by omega)
 have hmax1:max (0:Int) (Z:Int)=(Z:Int):=by omega
 have hmin1:min (P:Int) (Z:Int)=(Z:Int):=by omega
 have hoff:dp+(Z:Int)=0:=by omega
 have hmax2:max (0:Int) (k:Int)=(k:Int):=by omega
 have hsub:(P:Int) - (Z:Int)=(k:Int):=by omega
 have hb0:-400≤dp:=by omega
 have hb1:dp≤0:=by omega
 have hPb:P≤420:=by omega
 have HDP:Hid _:=hP
 clear hP
 obtain ⟨pre,HPRE⟩:∃ pre:List Int,Hid (pre=((if neg then [45] else [])++[48,46]:List Int)):=⟨(if neg then [45] else [])++[48,46],rfl⟩
 have hpl:pre.length≤3:=by rw [HPRE.out];cases neg <;> decide
 rw [← HPRE.out]
 cases neg
 all_goals
  go_enter Tryz.func197,Tryz.ntmps197
  go_wp2_with (first
   | (at_builtin;refine wpList_append_own _ rfl _ _ 146 rfl B 5 i0 (.int .u8 0) 1 1 Tryz.underlying146 hi hz0 hz1 hz2 rfl (by decide) _ _ _ rfl (hbuf.own.alloc _) ⟨_,0,none⟩ 1 1 [_] rfl rfl (cell_one_new _ _ _) (by intro u hu;simp at hu;subst hu;rfl) (by have:=hbuf.len;unfold maxLen;omega) (by have:=hbuf.len;omega) (by have:=hbuf.size;simp;omega) ?_;intro v w hown hgrow hnil;have hbuf:=hbuf.push _ hown hgrow hnil (by simp);clear hown hgrow hnil)
   | fail)
  have hbuf:Buf B (some (g,u)) W0 v pre w:=by rw [HPRE.out];exact hbuf
  go_loopw [240,0] (fun a v wr=>∃ i:Nat,i≤Z∧a=.int .i64 i∧Buf B (some (g,u)) W0 v (pre++List.replicate i 48) wr) (fun a _ _=>Z - (intOf a).toNat)
  case atStart=>exact ⟨0,Nat.zero_le _,rfl,by simpa using hbuf⟩
  case round =>
   obtain ⟨i,hir,rfl,hbuf⟩:=hrel
   rcases Nat.lt_or_eq_of_le hir with hlt2 | heq2
   ·go_wp2_with (first
     | (at_builtin;refine wpList_append_own _ rfl _ _ 146 rfl B 5 i0 (.int .u8 0) 1 1 Tryz.underlying146 hi hz0 hz1 hz2 rfl (by decide) _ _ _ rfl (hbuf.own.alloc _) ⟨_,0,none⟩ 1 1 [_] rfl rfl (cell_one_new _ _ _) (by intro u hu;simp at hu;subst hu;rfl) (by have:=hbuf.len;unfold maxLen;omega) (by have:=hbuf.len;omega) (by have:=hbuf.size;simp;omega) ?_;intro v w hown hgrow hnil;have hbuf:=hbuf.push _ hown hgrow hnil (by simp;omega);clear hown hgrow hnil)
     | fail)
    go_roundw
    case rel=>exact ⟨i+1,by omega,by go_num,by rw [rep_one,← List.append_assoc];exact hbuf⟩
    case measure=>simp [intOf];omega
   ·subst heq2
    have hlen:(pre++List.replicate i (48:Int)).length≤403:=by simp;omega
    obtain ⟨zs,hzs⟩:∃ zs,pre++List.replicate i (48:Int)=zs:=⟨_,rfl⟩
    rw [hzs] at hbuf hlen
    have HZ:Hid _:=hzs
    clear hzs
    go_wp2_with fail
    go_loopw [247,0,30] (fun a v _ wr=>∃ j:Nat,j≤k∧a=.int .i64 j∧Buf B (some (g,u)) W0 v (zs++(dI u).take j) wr) (fun a _ _ _=>k - (intOf a).toNat)
    case atStart=>exact ⟨0,Nat.zero_le _,rfl,by simpa using hbuf⟩
    case round =>
     obtain ⟨j,hj,rfl,hbuf⟩:=hrel
     rcases Nat.lt_or_eq_of_le hj with hlt3 | heq3
     ·have hc:=(hbuf.dig g u rfl).int j (by omega)
      have HX:Hid _:=take_one (dI u) j (by omega)
      generalize (dI u)[j]=x at *
      go_wp2_with (first
       | (at_builtin;refine wpList_append_own _ rfl _ _ 146 rfl B 5 i0 (.int .u8 0) 1 1 Tryz.underlying146 hi hz0 hz1 hz2 rfl (by decide) _ _ _ rfl (hbuf.own.alloc _) ⟨_,0,none⟩ 1 1 [_] rfl rfl (cell_one_new _ _ _) (by intro u hu;simp at hu;subst hu;rfl) (by have:=hbuf.len;unfold maxLen;omega) (by have:=hbuf.len;omega) (by have:=hbuf.size;simp;omega) ?_;intro v w hown hgrow hnil;have hbuf:=hbuf.push _ hown hgrow hnil (by simp;omega);clear hown hgrow hnil)
       | fail)
      go_roundw
      case rel=>exact ⟨j+1,by omega,by go_num,by rw [HX.out,← List.append_assoc];exact hbuf⟩
      case measure=>simp [intOf];omega
     ·subst heq3
      go_wp2_with fail
      go_loopw [261,0] (fun a v wr=>a=.int .i64 0∧Buf B (some (g,u)) W0 v (zs++(dI u).take j) wr) (fun _ _ _=>0)
      case atStart=>exact ⟨rfl,hbuf⟩
      case round =>
       obtain ⟨rfl,hbuf⟩:=hrel
       go_wp2_with fail
       go_ret
       exact ⟨_,rfl,by rw [HZ.out];exact hbuf⟩
end Go.Proofs.YtlgkfeeclgcgbaaGreatDoor.Rl
/- THE TEXT WITH AN EXPONENT and several digits. Own work of the verifier. -/
set_option maxRecDepth 100000
set_option maxHeartbeats 4000000
namespace Go.Proofs.YtlgkfeeclgcgbaaGreatDoor.Rl
open Go.RowKit Go.Sort
def mid (u k:Nat):List Int:=((dI u).take k).drop 1
theorem mid_length (u k:Nat) (h:k≤(dI u).length):(mid u k).length=k - 1:=by unfold mid;rw [List.length_drop,List.length_take];omega
theorem mid_at (u k:Nat) (h:k≤(dI u).length):∀ j (hj:j < (mid u k).length),(dI u)[1+j]? =some (mid u k)[j]:=by
 intro j hj
 have hl:=mid_length u k h
 have h2:(mid u k)[j]=(dI u)[1+j]'(by omega):=by unfold mid;simp [Nat.add_comm]
 rw [h2];exact List.getElem?_eq_getElem _
theorem fmtE_many (neg:Bool) (B g u E k P:Nat) (dp d0:Int) (W0 w:World) (v:Value) (hbuf:Buf B (some (g,u)) W0 v [] w) (h0:(dI u)[0]? =some d0) (hdp:dp - 1=(E:Int)∨dp - 1 < 0∧1 - dp=(E:Int)) (hE:E≤400) (hk:2≤k) (hk1:k≤(dI u).length) (hk2:k≤20) (hP:P=k - 1) :
  Calls Tryz.prog 197 #[v,.bool neg,.slice (some ⟨g,0,none⟩) 32 32,.int .i64 dp,.int .i64 (k:Int),.int .i64 (P:Int),.int .u8 101,.bool true] w fun r w'=>∃ v',r=.returned v'∧Buf B (some (g,u)) W0 v' ((if neg then [45,d0,46] else [d0,46])++mid u k++eTail dp) w':=by
 obtain ⟨i0,hi,hz0,hz1,hz2⟩:=info_parts infoByte
 have ht:(dp - 1=(E:Int)∧eTail dp=101::43::eDig E)∨(dp - 1 < 0∧-(dp - 1)=(E:Int)∧eTail dp=101::45::eDig E):=by
  unfold eTail
  rcases hdp with h | ⟨h,k⟩
  ·rw [if_neg (by omega),show (dp - 1).toNat=E from by omega];exact Or.inl ⟨h,rfl⟩
  ·rw [if_pos h,show (1 - dp).toNat=E from by omega];exact Or.inr ⟨h,by omega,rfl⟩
 have hr:(E < 10∧eDig E=[48,(E:Int)+48])∨(10≤E∧E < 100∧eDig E=[(E:Int) / 10+48,(E:Int) % 10+48])∨(100≤E∧eDig E=[(E:Int) / 100+48,(E:Int) / 10 % 10+48,(E:Int) % 10+48]):=by
  unfold eDig
  by_cases h1:E < 10
  ·exact Or.inl ⟨h1,if_pos h1⟩
  ·rw [if_neg h1]
   by_cases h2:E < 100
   ·exact Or.inr (Or.inl ⟨by omega,h2,if_pos h2⟩)
   ·exact Or.inr (Or.inr ⟨by omega,if_neg h2⟩)
 clear hdp
 have hmin:min (k:Int) ((P:Int)+1)=(k:Int):=by omega
 have hP0:decide (0 < P)=true:=decide_eq_true (by omega)
 have hk3:decide (1 < k)=true:=decide_eq_true (by omega)
 have hk4:((k:Int) != 0)=true:=by rw [bne_iff_ne];omega
 have hk5:((k:Int) == 0)=false:=by rw [beq_eq_false_iff_ne];omega
 have hz:(P:Int)+1 - (k:Int)=0:=by omega
 have hml:=mid_length u k hk1
 have HMID:Hid _:=mid_at u k hk1
 have HP:Hid _:=hP
 clear hP
 have hd:=hbuf.at0 h0
 have H0:Hid _:=h0
 clear h0
 obtain ⟨pre,HPRE⟩:∃ pre:List Int,Hid (pre=((if neg then [45,d0,46] else [d0,46])++mid u k:List Int)):=⟨(if neg then [45,d0,46] else [d0,46])++mid u k,rfl⟩
 have hpl:pre.length≤22:=by rw [HPRE.out];cases neg <;> simp [hml] <;> omega
 rw [← HPRE.out]
 cases neg
 all_goals
  rcases ht with ⟨hp,ht⟩ | ⟨hp0,hp,ht⟩
  all_goals
   rcases hr with ⟨r1,r2⟩ | ⟨r0,r1,r2⟩ | ⟨r0,r2⟩
   all_goals
    rw [ht,r2]
    clear ht r2
    go_enter Tryz.func197,Tryz.ntmps197
    go_wp2_with (first
     | (at_builtin;refine wpList_append_own _ rfl _ _ 146 rfl B 5 i0 (.int .u8 0) 1 1 Tryz.underlying146 hi hz0 hz1 hz2 rfl (by decide) _ _ _ rfl (hbuf.own.alloc _) ⟨_,0,none⟩ 1 1 [_] rfl rfl (cell_one_new _ _ _) (by intro u hu;simp at hu;subst hu;rfl) (by have:=hbuf.len;unfold maxLen;omega) (by have:=hbuf.len;omega) (by have:=hbuf.size;simp;omega) ?_;intro v w hown hgrow hnil;have hbuf:=hbuf.push _ hown hgrow hnil (by simp);have hd:=hbuf.at0 H0.out;clear hown hgrow hnil)
     | (at_builtin;refine wpList_append_own _ rfl _ _ 146 rfl B 5 i0 (.int .u8 0) 1 1 Tryz.underlying146 hi hz0 hz1 hz2 rfl (by decide) _ _ _ rfl hbuf.own ⟨g,1,none⟩ (k - 1) 31 ((mid u k).map (Value.int .u8)) rfl (by rw [List.length_map,hml,Nat.mul_one]) (hbuf.mid 1 HMID.out) (ints_oneCell .u8 _) (by have:=hbuf.len;unfold maxLen;omega) (by have:=hbuf.len;omega) hbuf.size ?_;intro v w hown hgrow hnil;have hbuf:=hbuf.grow (World.grownBy.refl _ _) (k - 1) hml hown hgrow hnil (by simp [hml];omega);clear hown hgrow hnil)
     | fail)
    have hbuf:Buf B (some (g,u)) W0 v pre w:=by rw [HPRE.out];exact hbuf
    go_loopw [114,0] (fun a v wr=>a=.int .i64 0∧Buf B (some (g,u)) W0 v pre wr) (fun _ _ _=>0)
    case atStart=>exact ⟨rfl,hbuf⟩
    case round =>
     obtain ⟨rfl,hbuf⟩:=hrel
     go_wp2_with (first
      | (at_builtin;refine wpList_append_own _ rfl _ _ 146 rfl B 5 i0 (.int .u8 0) 1 1 Tryz.underlying146 hi hz0 hz1 hz2 rfl (by decide) _ _ _ rfl (hbuf.own.alloc _) ⟨_,0,none⟩ 1 1 [_] rfl rfl (cell_one_new _ _ _) (by intro u hu;simp at hu;subst hu;rfl) (by have:=hbuf.len;unfold maxLen;omega) (by have:=hbuf.len;omega) (by have:=hbuf.size;simp;omega) ?_;intro v w hown hgrow hnil;have hbuf:=hbuf.push _ hown hgrow hnil (by simp;omega);clear hown hgrow hnil)
      | (at_builtin;refine wpList_append_own _ rfl _ _ 146 rfl B 5 i0 (.int .u8 0) 1 1 Tryz.underlying146 hi hz0 hz1 hz2 rfl (by decide) _ _ _ rfl (hbuf.own.alloc _) ⟨_,0,none⟩ 2 2 [_,_] rfl rfl (cell_two_new _ _ _ _) (by intro u hu;simp at hu;rcases hu with rfl | rfl <;> rfl) (by have:=hbuf.len;unfold maxLen;omega) (by have:=hbuf.len;omega) (by have:=hbuf.size;simp;omega) ?_;intro v w hown hgrow hnil;have hbuf:=hbuf.push2 _ hown hgrow hnil (by simp;omega);clear hown hgrow hnil)
      | (at_builtin;refine wpList_append_own _ rfl _ _ 146 rfl B 5 i0 (.int .u8 0) 1 1 Tryz.underlying146 hi hz0 hz1 hz2 rfl (by decide) _ _ _ rfl (hbuf.own.alloc _) ⟨_,0,none⟩ 3 3 [_,_,_] rfl rfl (cell_three_new _ _ _ _ _) (by intro u hu;simp at hu;rcases hu with rfl | rfl | rfl <;> rfl) (by have:=hbuf.len;unfold maxLen;omega) (by have:=hbuf.len;omega) (by have:=hbuf.size;simp;omega) ?_;intro v w hown hgrow hnil;have hbuf:=hbuf.push3 _ hown hgrow hnil (by simp;omega);clear hown hgrow hnil)
      | fail)
     go_ret
     exact ⟨_,rfl,by simpa using hbuf⟩
end Go.Proofs.YtlgkfeeclgcgbaaGreatDoor.Rl
/- WHAT THE WALKS READ OF THE LIBRARY's VARIABLES; the row of bytes through calls. Own work of the verifier. -/
namespace Go.Proofs.YtlgkfeeclgcgbaaGreatDoor.Rl
open Go.RowKit Go.Sort
theorem lt_of_cell {w:World} {b o:Nat} {v:Value} (h:w.cell? ⟨b,o,none⟩=some v):b < w.heap.size:=by
 obtain ⟨c,e,fr,h1,_⟩:=cells_of_cell? h
 rcases Nat.lt_or_ge b w.heap.size with k | k
 ·exact k
 ·rw [Array.getElem?_eq_none k] at h1;cases h1
theorem Pow.lt {w:World} (h:Pow w):12 < w.heap.size:=lt_of_cell (h 0 (by decide)).1
theorem Pow.below {w w':World} (h:Pow w) (hb:Below w.heap.size w w'):Pow w':=by
 intro i hi
 obtain ⟨h0,h1⟩:=h i hi
 exact ⟨by rw [(bcell hb).1 _ _ h.lt,h0],by rw [(bcell hb).1 _ _ h.lt,h1]⟩
theorem Tab.below {w w':World} (h:Tab w) (hb:Below w.heap.size w w'):Tab w':=by
 unfold Tab Lib.TabIs World.var? at *
 cases hg:Tryz.prog.globalNamed "internal/strconv.uint64pow10" with
 | none=>simp [hg] at h
 | some g =>
  simp only [hg,Option.bind_some] at h ⊢
  have hlt:g < w.heap.size:=by
   rcases Nat.lt_or_ge g w.heap.size with h' | h'
   ·exact h'
   ·rw [Array.getElem?_eq_none h'] at h;simp at h
  rw [hb.block g hlt]
  exact h
structure Glob (w:World):Prop where
 pow:Pow w
 tab:Tab w
 opt:w.cell? ⟨6,0,none⟩=some (.bool true)
 m52:w.cell? ⟨7,0,none⟩=some (.int .u64 52)
theorem Glob.below {w w':World} (h:Glob w) (hb:Below w.heap.size w w'):Glob w' :=
 ⟨h.pow.below hb,h.tab.below hb,by rw [(bcell hb).1 _ _ (lt_of_cell h.opt),h.opt],by rw [(bcell hb).1 _ _ (lt_of_cell h.m52),h.m52]⟩
theorem own_below {B:Nat} {e:TypeId} {k:Nat} {v:Value} {n:Nat} {xs:List Value} {w w':World} (h:w.ownsRow B e k v n xs) (hb:Below w.heap.size w w'):w'.ownsRow B e k v n xs:=by
 obtain ⟨h1,h2⟩:=h
 refine ⟨h1,?_⟩
 rcases h2 with h2 | ⟨g,cap,cur,hv,hg,hh,r⟩
 ·exact Or.inl h2
 ·have hlt:g < w.heap.size:=by
   rcases Nat.lt_or_ge g w.heap.size with h' | h'
   ·exact h'
   ·rw [Array.getElem?_eq_none h'] at hh;cases hh
  exact Or.inr ⟨g,cap,cur,hv,hg,by rw [hb.block g hlt];exact hh,r⟩
theorem Buf.step {B:Nat} {W0 w w':World} {v:Value} {zs:List Int} (h:Buf B none W0 v zs w) (hb:Below w.heap.size w w'):Buf B none W0 v zs w' :=
 ⟨own_below h.own hb,h.nz,h.below.trans (hb.mono h.size),by have:=h.size;have:=hb.size;omega,h.len,fun g u e=>by cases e⟩
theorem Buf.digits {B g u:Nat} {W0 w w':World} {v:Value} {zs:List Int} {arr:Array Value} (h:Buf B none W0 v zs w) (hob:w.heap[g]? =some (.cells arr 297)) (hgB:B≤g) (hg:w.grownBy w' (some g)) (hd:DigAt g u w'):Buf B (some (g,u)) W0 v zs w':=by
 obtain ⟨gv,cap,cur,hv,hB,hcur⟩:=own_of h.own h.nz
 have hne:g≠gv:=fun e=>by rw [e,hcur] at hob;cases hob
 refine ⟨h.own.kept hg (Or.inr ?_),h.nz,h.below.grown hg h.size (fun k e=>by cases e;exact hgB),by have:=h.size;have:=hg.size;omega,h.len,fun g' u' e=>by cases e;exact hd⟩
 rw [hv]
 exact fun e=>hne (Option.some.inj e).symm
end Go.Proofs.YtlgkfeeclgcgbaaGreatDoor.Rl
