/- WHERE A RING'S PLACES ARE. Own work of the verifier. -/
import Derived.Test.YtlgkfeeclgcgbaaGreatDoorZBA
import Derived.Deep.RegionHeld3
import Derived.Test.YtlgkfeeclgcgbaaGreatDoorZAB
import Derived.Sort.CutIn
import Derived.Test.YtlgkfeeclgcgbaaGreatDoorZBF
import Derived.Laws.OwnMore
import Derived.Deep.AppendLies
set_option maxHeartbeats 2000000
namespace Go.Proofs.YtlgkfeeclgcgbaaGreatDoor.Ri
open Go.RowKit Me
abbrev Rs:Type:=Sn × Value
abbrev c3 (r:Rs):List Value:=[.int .i64 r.1.p,r.2,.int .u64 (r.1.r:Int)]
abbrev sx (r:Rs):Value:=.agg #[.int .i64 r.1.p,r.2,.int .u64 (r.1.r:Int)]
def flS:List Rs→List Value
 | []=>[]
 | r::L=>c3 r++flS L
theorem flS_length (L:List Rs):(flS L).length=L.length*3:=by
 induction L with
 | nil=>rfl
 | cons c L ih=>simp only [flS,List.length_append,List.length_cons,ih,List.length_nil];omega
theorem flS_append (A B:List Rs):flS (A++B)=flS A++flS B:=by
 induction A with
 | nil=>rfl
 | cons c A ih=>simp only [List.cons_append,flS,ih,List.append_assoc]
theorem flS_get (L:List Rs) (i j:Nat) (h:i < L.length) (hj:j < 3):(flS L)[i*3+j]? =(c3 L[i])[j]?:=by
 induction L generalizing i with
 | nil=>simp at h
 | cons c L ih =>
  cases i with
  | zero =>
   rw [flS,List.getElem?_append_left (by simp;omega)]
   simp
  | succ i =>
   rw [flS,List.getElem?_append_right (by simp;omega)]
   have:=ih i (by simpa using h)
   rw [show (i+1)*3+j - (c3 c).length=i*3+j by simp;omega]
   exact this
abbrev plc (k i l:Nat):Nat:=(k+i) % l
theorem len_any (b n cap:Nat) (ao:Option Addr) (w:World) (h:w.cell? ⟨b,1,none⟩=some (.slice ao n cap)) :
  Calls Tryz.prog 17 #[.pointer (some ⟨b,0,none⟩)] w fun e w'=>e=.returned (.int .i64 (n:Int))∧w'=w:=by
 go_enter Tryz.func17,Tryz.ntmps17
 go_wp2
 go_ret
 exact ⟨rfl,rfl⟩
theorem drew_bel1 (w:World):Below w.heap.size w w.drew:=⟨rfl,rfl,rfl,Nat.le_refl _,fun _ _=>rfl⟩
theorem place_any (b n cap k i:Nat) (ao:Option Addr) (w:World) (h1:w.cell? ⟨b,1,none⟩=some (.slice ao n cap)) (h3:w.cell? ⟨b,3,none⟩=some (.int .i64 (k:Int))) (hn:0 < n) (hn2:n≤256) (hk:k≤256) (hi:i≤256) :
  Calls Tryz.prog 32 #[.pointer (some ⟨b,0,none⟩),.int .i64 (i:Int)] w fun e w'=>e=.returned (.int .i64 (plc k i n:Nat))∧Below w.heap.size w w':=by
 have HL:Hid (∀ W,W.cell? ⟨b,1,none⟩=some (.slice ao n cap)→Calls Tryz.prog 17 #[.pointer (some ⟨b,0,none⟩)] W fun e w'=>e=.returned (.int .i64 (n:Int))∧w'=W):=fun W h=>len_any b n cap ao W h
 have hz:¬ ((n:Int)=0):=by omega
 have hs:IntKind.i64.wrap ((k:Int)+(i:Int))=((k+i:Nat):Int):=by rw [IntKind.wrap_i64];omega
 have h1':w.drew.cell? ⟨b,1,none⟩=some (.slice ao n cap):=h1
 have h3':w.drew.cell? ⟨b,3,none⟩=some (.int .i64 (k:Int)):=h3
 have HB:=hid_of (drew_bel1 w)
 go_enter Tryz.func32,Tryz.ntmps32
 go_wp2
 go_region_with (go_at_call 17;with_reducible refine (HL.out _ h1').mono ?_;rintro e w1 ⟨rfl,rfl⟩)
 all_goals (go_wp2;go_ret;first | exact ⟨rfl,HB.out⟩ | trace_state)
theorem size1 (W:World):(sizeOf 2).run Tryz.prog W=.ok 1 W:=by simp [sizeOf];rfl
theorem size3 (W:World):(sizeOf 50).run Tryz.prog W=.ok 3 W:=by simp [sizeOf];rfl
theorem index_tm (b len cap j:Nat) (z:Int) (hz:z=(j:Int)) (hj:j < len) (W:World) :
  (Instr.indexAt 69 (.slice (some ⟨b,0,none⟩) len cap) (.int .i64 z)).run Tryz.prog W=.ok (.pointer (some ⟨b,j,none⟩)) W:=by
 subst hz
 have he:Tryz.prog.elem 69=2:=by simp [Program.elem,Tryz.underlying69]
 rw [run_indexAt_slice W 69 ⟨b,0,none⟩ len cap .i64 (j:Int) (by rw [he];exact Tryz.underlying69),if_pos (by omega),he,size1]
 simp [Addr.add]
 omega
theorem index_sn (b len cap j:Nat) (z:Int) (hz:z=(j:Int)) (hj:j < len) (W:World) :
  (Instr.indexAt 70 (.slice (some ⟨b,0,none⟩) len cap) (.int .i64 z)).run Tryz.prog W=.ok (.pointer (some ⟨b,j*3,none⟩)) W:=by
 subst hz
 have he:Tryz.prog.elem 70=50:=by simp [Program.elem,Tryz.underlying70]
 rw [run_indexAt_slice W 70 ⟨b,0,none⟩ len cap .i64 (j:Int) (by rw [he];exact Tryz.underlying70),if_pos (by omega),he,size3]
 simp [Addr.add]
 omega
structure Rw (b:Nat) (T:List Int) (R:List Rs) (k tg tc sg sc:Nat) (ta sa:Option Addr) (W:World):Prop where
 c1:W.cell? ⟨b,1,none⟩=some (.slice ta R.length tc)
 c2:W.cell? ⟨b,2,none⟩=some (.slice sa R.length sc)
 c3:W.cell? ⟨b,3,none⟩=some (.int .i64 (k:Int))
 t:∀ i (h:i < T.length),W.cell? ⟨tg,i,none⟩=some (.int .i64 T[i])
 s:∀ i (h:i < R.length),W.cell? ⟨sg,i*3,none⟩=some (.int .i64 R[i].1.p)∧W.cell? ⟨sg,i*3+1,none⟩=some R[i].2∧W.cell? ⟨sg,i*3+2,none⟩=some (.int .u64 (R[i].1.r:Int))
 ho:0 < R.length→ta=some ⟨tg,0,none⟩∧sa=some ⟨sg,0,none⟩
 hl:T.length=R.length
 hm:R.length≤256
 hk:k≤256
 sl:∀ r ∈ R,∃ a n c,r.2=Value.slice a n c
theorem Rw.below {b k tg tc sg sc:Nat} {T:List Int} {R:List Rs} {ta sa:Option Addr} {W W1:World} (h:Rw b T R k tg tc sg sc ta sa W) (hb:Below W.heap.size W W1):Rw b T R k tg tc sg sc ta sa W1 :=
 ⟨cellB hb h.c1,cellB hb h.c2,cellB hb h.c3,fun i hi=>cellB hb (h.t i hi),fun i hi=>⟨cellB hb (h.s i hi).1,cellB hb (h.s i hi).2.1,cellB hb (h.s i hi).2.2⟩,h.ho,h.hl,h.hm,h.hk,h.sl⟩
theorem Rw.pl {b k tg tc sg sc:Nat} {T:List Int} {R:List Rs} {ta sa:Option Addr} {W:World} (h:Rw b T R k tg tc sg sc ta sa W) (h0:0 < R.length) (i:Nat) (hi:i≤256):Calls Tryz.prog 32 #[.pointer (some ⟨b,0,none⟩),.int .i64 (i:Int)] W fun e w'=>e=.returned (.int .i64 (plc k i R.length:Nat))∧Below W.heap.size W w':=place_any b R.length tc k i ta W h.c1 h.c3 h0 h.hm h.hk hi
def dR:Rs:=(⟨0,[],0⟩,.slice none 0 0)
theorem Rw.slD {b k tg tc sg sc:Nat} {T:List Int} {R:List Rs} {ta sa:Option Addr} {W:World} (h:Rw b T R k tg tc sg sc ta sa W) (p:Nat):∃ a n c,(R.getD p dR).2=Value.slice a n c:=by
 by_cases hp:p < R.length
 ·simp only [List.getD,List.getElem?_eq_getElem hp,Option.getD_some]
  exact h.sl _ (List.getElem_mem hp)
 ·simp only [List.getD,List.getElem?_eq_none (Nat.le_of_not_lt hp),Option.getD_none]
  exact ⟨_,_,_,rfl⟩
def encR (T:List Int) (R:List Rs) (k i:Nat):Array Value:=#[.int .i64 (T.getD (plc k i R.length) 0),sx (R.getD (plc k i R.length) dR)]
end Go.Proofs.YtlgkfeeclgcgbaaGreatDoor.Ri
/- A RANGE OVER AN ITERATOR: what a round that ends it keeps is told too. Own work of the verifier. -/
set_option maxHeartbeats 1000000
namespace Go.Proofs.YtlgkfeeclgcgbaaGreatDoor.Ri
open Go.RowKit Go.Shelf Me
attribute [local go_sem] Oper.semAt_some
structure Tn (B:Nat) (W W':World):Prop where
 os:W'.os=W.os
 tape:W'.tape=W.tape
 output:W'.output=W.output
 size:W.heap.size≤W'.heap.size
 block:∀ k o,W.heap[k]? =some o→(k < B∨∃ c t z,o=.cells c t z)→W'.heap[k]? =some o
theorem Tn.of {B:Nat} {W W':World} (h:Below W.heap.size W W'):Tn B W W':=⟨h.os,h.tape,h.output,h.size,fun k _o e _=>(h.block k (Array.getElem?_eq_some_iff.1 e).1).trans e⟩
theorem Tn.mono {B B':Nat} {W W':World} (h:Tn B W W') (hb:B'≤B):Tn B' W W':=⟨h.os,h.tape,h.output,h.size,fun k o e q=>h.block k o e (q.imp (fun x=>by omega) id)⟩
theorem Tn.at_ {B k:Nat} {W W':World} {o:Obj} (h:Tn B W W') (e:W.heap[k]? =some o) (hk:k < B):W'.heap[k]? =some o:=h.block k o e (.inl hk)
theorem Tn.cells {B k:Nat} {W W':World} {c:Array Value} {t:TypeId} {z:Nat × Nat} (h:Tn B W W') (e:W.heap[k]? =some (.cells c t z)):W'.heap[k]? =some (.cells c t z):=h.block k _ e (.inr ⟨_,_,_,rfl⟩)
theorem Tn.put {B l:Nat} {W:World} {r:Loop} (h:W.heap[l]? =some (.loop r)) (hl:B≤l) (o:Obj):Tn B W (W.putObj l o):=⟨rfl,rfl,rfl,by simp [World.putObj],fun k o' e q=>by
 by_cases ek:k=l
 ·subst ek
  rw [h] at e
  cases e
  rcases q with q | ⟨_,_,_,q⟩
  ·omega
  ·cases q
 ·exact (World.putObj_heap_other ek).trans e⟩
theorem Tn.putD {B D:Nat} {W:World} {d:Option (List Deferred)} (h:W.heap[D]? =some (.deferred d)) (hl:B≤D) (o:Obj):Tn B W (W.putObj D o):=⟨rfl,rfl,rfl,by simp [World.putObj],fun k o' e q=>by
 by_cases ek:k=D
 ·subst ek
  rw [h] at e
  cases e
  rcases q with q | ⟨_,_,_,q⟩
  ·omega
  ·cases q
 ·exact (World.putObj_heap_other ek).trans e⟩
theorem Tn.below {B:Nat} {W W':World} (h:Tn B W W') (hB:B≤W.heap.size):Below B W W':=⟨h.os,h.tape,h.output,h.size,fun k hk=>by
 have hlt:k < W.heap.size:=by omega
 rw [Array.getElem?_eq_getElem hlt]
 exact h.block k _ (Array.getElem?_eq_getElem hlt) (.inl hk)⟩
theorem Tn.chg {B:Nat} {W W':World} (h:Tn B W W'):Chg (fun k=>∃ o,W.heap[k]? =some o∧∀ c t z,o≠.cells c t z) W W':=⟨h.os,h.tape,h.output,h.size,fun k hk hn=>by
 rw [Array.getElem?_eq_getElem hk]
 refine h.block k _ (Array.getElem?_eq_getElem hk) (.inr ?_)
 apply Classical.byContradiction
 intro q
 exact hn ⟨_,Array.getElem?_eq_getElem hk,fun c t z e=>q ⟨c,t,z,e⟩⟩⟩
theorem Tn.row {B B':Nat} {W W':World} {e:TypeId} {s n:Nat} {v:Value} {xs:List Value} (h:Tn B W W') (k:W.ownsRow B' e s v n xs):W'.ownsRow B' e s v n xs:=h.chg.row k (fun x hx q=>by
 obtain ⟨o,ho,hno⟩:=q
 rcases k.2 with ⟨rfl,_⟩ | ⟨g,cap,cur,rfl,_,hg,_⟩
 ·cases hx
 ·cases hx
  rw [hg] at ho
  cases ho
  exact hno _ _ _ rfl)
structure MidX (n0 B l:Nat) (W W':World):Prop where
 os:W'.os=W.os
 tape:W'.tape=W.tape
 output:W'.output=W.output
 size:W.heap.size≤W'.heap.size
 block:∀ k,k < W.heap.size→¬ (n0≤k∧k < B)→k≠l→W'.heap[k]? =W.heap[k]?
theorem MidX.mid {n0 B l:Nat} {W W':World} (h:MidX n0 B l W W') (hB:B≤l) (hn:n0≤l):Mid n0 (l+1) W W':=⟨h.os,h.tape,h.output,h.size,fun k hk hn'=>h.block k hk (by omega) (by omega)⟩
theorem mid_wide {n0 B B':Nat} {W W':World} (h:Mid n0 B W W') (hB:B≤B'):Mid n0 B' W W':=⟨h.os,h.tape,h.output,h.size,fun k hk hn'=>h.block k hk (by omega)⟩
def SeqX (P:Program) (m:Nat) (gf:Nat) (lb:Array Value) (n0 B N:Nat) (encs:Nat→Array Value) (w:World):Prop :=
 ∀ (l:Nat) (J Jx:Nat→World→Prop) (W:World),Below w.heap.size w W→w.heap.size≤W.heap.size→w.heap.size≤l→l < W.heap.size →
  (∀ i A A',J i A→Tn W.heap.size A A'→J i A')→(∀ i A A',Jx i A→Tn W.heap.size A A'→Jx i A') →
  (∀ i W1,i < N→J i W1→YieldAt Fence.wide (m - 1) P l (encs i) W1 fun e W'=>(e=.returned (.bool true)∧Mid n0 B W1 W'∧J (i+1) W')∨(e=.returned (.bool false)∧MidX n0 B l W1 W'∧Jx (i+1) W')) →
  J 0 W →
  CallsIn Fence.wide m P gf (#[.func (.yield l) #[] #[]]++lb) W fun e W'=>(∃ v,e=.returned v)∧(J N W'∨∃ i,i≤N∧Jx i W')
theorem wpIn_rangeFunc_seqX {P:Program} {n:Nat} {g:Operand} {ps:Array Tmp} {assign body:Code} {Q:Exit→Act→World→Prop} {a:Act} {w:World}
  {gf:Nat} {lb:Array Value} (hg:a.eval g=.func (.func gf) #[] lb) (eg:∀ args w,(callFunc gf args).run P w=.ok (.enter gf args) w)
  {n0 B N:Nat} {encs:Nat→Array Value} (hB:B≤w.heap.size) (hseq:SeqX P (n - 1) gf lb n0 B N encs w) (hps:∀ i,(encs i).size=ps.size)
  (I:Nat→World→Prop) (Ix:Code→Nat→World→Prop) (hI:∀ i A A',I i A→Tn w.heap.size A A'→I i A') (hIx:∀ c i A A',Ix c i A→Tn w.heap.size A A'→Ix c i A') (h0:I 0 w)
  (hround:∀ (l i:Nat) (W:World),i < N→w.heap.size≤l→l < W.heap.size→I i W →
   assign.wpIn (Fence.wide.inRound l) (n - 1 - 1) P (Exit.then (fun a1 W1=>Below W.heap.size W W1∧∀ W2,I i W2→W2.heap.size=W1.heap.size→(∀ k,k≠l→W2.heap[k]? =W1.heap[k]?) →
    body.wpIn (Fence.wide.inRound l) (n - 1 - 1) P (midPost n0 B I Ix (i+1) W2) a1 W2) (fun _ _ _=>False)) { tmps:=(ps.zip (encs i)).foldl (fun t (p,v)=>t.setIfInBounds p v) a.tmps,defers:=[] } W)
  (hdone:∀ (D:Nat) (W:World),w.heap.size≤D→I N W→W.heap[D]? =some (.deferred (some []))→Q .normal { a with defers:={ target:=.collected D,args:=#[] }::a.defers } W)
  (hstop:∀ (D:Nat) (c:Code) (i:Nat) (W:World),w.heap.size≤D→i≤N→Ix c i W→W.heap[D]? =some (.deferred (some []))→c.wpIn Fence.wide n P Q { a with defers:={ target:=.collected D,args:=#[] }::a.defers } W) :
  (Code.rangeFunc g ps assign body).wpIn Fence.wide n P Q a w:=by
 refine wpIn_rangeFunc ?_
 intro fn hfn
 show ∃ l mark w₁ d w₁' f args w₂,(Instr.enterLoop fn a.tmps ps assign body none).run P w=.ok (l,mark) w₁∧_
 obtain ⟨rec,hrec⟩:∃ rec:LoopState→Option Code→Loop,rec=fun st pe=>{ state:=st,pending:=pe,fn,tmps:=a.tmps,params:=ps,assign,body,defers:=w.heap.size }:=⟨_,rfl⟩
 obtain ⟨W1,hW1⟩:∃ W1,(w.alloc (.deferred (some []))).alloc (.loop (rec .ready none))=W1:=⟨_,rfl⟩
 have hs1:W1.heap.size=w.heap.size+1+1:=by rw [← hW1];simp
 have hL1:W1.heap[w.heap.size+1]? =some (.loop (rec .ready none)):=by
  rw [← hW1];have:=World.alloc_heap_new (w.alloc (.deferred (some []))) (.loop (rec .ready none));rwa [World.size_alloc] at this
 have hK1:W1.heap[w.heap.size]? =some (.deferred (some [])):=by
  rw [← hW1];exact (Below.heap_alloc _ _ _ (by simp)).trans (World.alloc_heap_new w _)
 have hb1:Below w.heap.size w W1:=by
  rw [← hW1];exact ((Below.refl _ w).alloc (Nat.le_refl _) _).alloc (by simp) _
 refine ⟨w.heap.size+1,[{ target:=.collected w.heap.size,args:=#[] }],W1,{ target:=.fn (.func gf) lb,args:=#[.func (.yield (w.heap.size+1)) #[] #[]] },W1,gf,
  #[.func (.yield (w.heap.size+1)) #[] #[]]++lb,W1,?_,?_,?_,?_,?_,?_⟩
 ·rw [← hW1,hrec];exact run_enterLoop_outer _ _ _ _ _
 ·simp only [resolve,hg]
  simp [go_sem]
 ·intro f' _;exact True.intro
 ·simp [invoke,go_sem,eg]
 ·intro h;simp [Fence.wide] at h
 ·have hput:∀ {A:World} {r:Loop} (_:A.heap[w.heap.size+1]? =some (.loop r)) (o:Obj),Tn w.heap.size A (A.putObj (w.heap.size+1) o):=fun h o=>Tn.put h (Nat.le_succ _) o
  have hputB:∀ (A:World) (o:Obj),w.heap.size+1 < A.heap.size→Below w.heap.size A (A.putObj (w.heap.size+1) o):=fun A o hlt =>
   (Below.refl _ _).grown (grownBy_putObj' A (w.heap.size+1) o) (by omega) (fun k e=>by cases e;omega)
  refine (hseq (w.heap.size+1)
   (fun i W=>I i W∧W.heap[w.heap.size+1]? =some (.loop (rec .ready none))∧W.heap[w.heap.size]? =some (.deferred (some [])))
   (fun i W=>∃ c,Ix c i W∧W.heap[w.heap.size+1]? =some (.loop (rec .done (some c)))∧W.heap[w.heap.size]? =some (.deferred (some [])))
   W1 hb1 (by omega) (by omega) (by omega)
   (fun i A A' hs hb=>⟨hI i A A' hs.1 (hb.mono (by omega)),hb.at_ hs.2.1 (by omega),hb.at_ hs.2.2 (by omega)⟩)
   (fun i A A' hs hb=>by
    obtain ⟨c,hc,hl,hk⟩:=hs
    exact ⟨c,hIx c i A A' hc (hb.mono (by omega)),hb.at_ hl (by omega),hb.at_ hk (by omega)⟩)
   ?_ ⟨hI 0 w W1 h0 (Tn.of hb1),hL1,hK1⟩).mono ?_
  ·rintro i W hiN ⟨hi,hl,hk⟩
   have hlt:w.heap.size+1 < W.heap.size:=(Array.getElem?_eq_some_iff.1 hl).1
   have hy:=run_yield (P:=P) (args:=encs i) hl (by rw [hrec];exact hps i)
   rw [hrec] at hy
   refine ⟨fn,_,assign,body,hy,roundIn_of_wpIn hfn (wpIn_mono (hround (w.heap.size+1) i W hiN (by omega) hlt hi) ?_)⟩
   clear hy
   rintro e a1 Wa hp
   cases e with
   | normal =>
    obtain ⟨hba,hbody⟩:=hp
    have hla:=(hba.block _ hlt).trans hl
    have hka:=(hba.block w.heap.size (by omega)).trans hk
    have hlta:w.heap.size+1 < Wa.heap.size:=(Array.getElem?_eq_some_iff.1 hla).1
    refine ⟨_,run_beginRound hla (by rw [hrec]),?_⟩
    obtain ⟨W2,hW2⟩:∃ W2,Wa.putObj (w.heap.size+1) (.loop { rec .ready none with state:=.busy })=W2:=⟨_,rfl⟩
    rw [hW2]
    have hl2:W2.heap[w.heap.size+1]? =some (.loop { rec .ready none with state:=.busy }):=by rw [← hW2];exact World.putObj_heap_same hlta
    have hot:∀ k,k≠w.heap.size+1→W2.heap[k]? =Wa.heap[k]?:=fun k hk'=>by rw [← hW2];exact World.putObj_heap_other hk'
    have hs2:W2.heap.size=Wa.heap.size:=by rw [← hW2];simp [World.putObj]
    have hb2:Below w.heap.size Wa W2:=by rw [← hW2];exact hputB _ _ hlta
    have hb2t:Tn w.heap.size Wa W2:=by rw [← hW2];exact hput hla _
    have hi2:I i W2:=hI i _ _ (hI i _ _ hi (Tn.of hba)) hb2t
    refine wpIn_mono (hbody W2 hi2 hs2 hot) ?_
    have fin:∀ (jump:Option Code) (W3:World),Mid n0 B W2 W3 →
      (Instr.endRound (w.heap.size+1) jump).run P W3=.ok (.bool jump.isNone) (W3.putObj (w.heap.size+1) (.loop (rec (if jump.isNone then .ready else .done) jump))) ∧
      w.heap.size+1 < W3.heap.size ∧
      (W3.putObj (w.heap.size+1) (.loop (rec (if jump.isNone then .ready else .done) jump))).heap[w.heap.size+1]? =some (.loop (rec (if jump.isNone then .ready else .done) jump)) ∧
      (W3.putObj (w.heap.size+1) (.loop (rec (if jump.isNone then .ready else .done) jump))).heap[w.heap.size]? =some (.deferred (some [])) ∧
      Tn w.heap.size W3 (W3.putObj (w.heap.size+1) (.loop (rec (if jump.isNone then .ready else .done) jump))):=fun jump W3 hk3=>by
     have hl3:=(hk3.block _ (by omega) (by omega)).trans hl2
     have hk3':=(hk3.block w.heap.size (by omega) (by omega)).trans ((hot _ (by omega)).trans hka)
     have:=run_endRound (P:=P) jump hl3
     rw [hrec] at this ⊢
     exact ⟨this,(Array.getElem?_eq_some_iff.1 hl3).1,World.putObj_heap_same (Array.getElem?_eq_some_iff.1 hl3).1,(World.putObj_heap_other (by omega)).trans hk3',hput hl3 _⟩
    have midX:∀ (o:Obj) {W3:World},Mid n0 B W2 W3→MidX n0 B (w.heap.size+1) W (W3.putObj (w.heap.size+1) o):=fun o W3 hk3=>by
     refine ⟨hk3.os.trans (hb2.os.trans hba.os),hk3.tape.trans (hb2.tape.trans hba.tape),hk3.output.trans (hb2.output.trans hba.output),?_,fun k hkW hkn ek=>?_⟩
     ·have e1:(W3.putObj (w.heap.size+1) o).heap.size=W3.heap.size:=by simp [World.putObj]
      exact Nat.le_trans (Nat.le_trans hba.size (by rw [← hs2];exact hk3.size)) (Nat.le_of_eq e1.symm)
     ·exact (World.putObj_heap_other ek).trans ((hk3.block k (by have:=hba.size;omega) hkn).trans ((hot k ek).trans (hba.block k hkW)))
    rintro e a3 W3 hp
    cases e with
    | normal =>
     obtain ⟨hk3,hi3⟩:=hp
     obtain ⟨hr,hlt3,hl4,hk4,htn⟩:=fin none W3 hk3
     refine ⟨_,_,hr,.inl ⟨rfl,?_,hI _ _ _ hi3 htn,hl4,hk4⟩⟩
     refine ⟨hk3.os.trans (hb2.os.trans hba.os),hk3.tape.trans (hb2.tape.trans hba.tape),hk3.output.trans (hb2.output.trans hba.output),?_,fun k hkW hkn=>?_⟩
     ·have e1:(W3.putObj (w.heap.size+1) (.loop (rec .ready none))).heap.size=W3.heap.size:=by simp [World.putObj]
      exact Nat.le_trans (Nat.le_trans hba.size (by rw [← hs2];exact hk3.size)) (Nat.le_of_eq e1.symm)
     ·by_cases ek:k=w.heap.size+1
      ·subst ek;exact hl4.trans hl.symm
      ·exact (World.putObj_heap_other ek).trans ((hk3.block k (by have:=hba.size;omega) hkn).trans ((hot k ek).trans (hba.block k hkW)))
    | ret =>
     obtain ⟨hk3,hi3⟩:=hp
     obtain ⟨hr,hlt3,hl4,hk4,htn⟩:=fin (some .ret) W3 hk3
     exact ⟨_,_,hr,.inr ⟨rfl,midX _ hk3,.ret,hIx _ _ _ _ hi3 htn,hl4,hk4⟩⟩
    | exit id =>
     obtain ⟨hk3,hi3⟩:=hp
     obtain ⟨hr,hlt3,hl4,hk4,htn⟩:=fin (some (.exit id)) W3 hk3
     exact ⟨_,_,hr,.inr ⟨rfl,midX _ hk3,.exit id,hIx _ _ _ _ hi3 htn,hl4,hk4⟩⟩
    | goto t =>
     obtain ⟨hk3,hi3⟩:=hp
     obtain ⟨hr,hlt3,hl4,hk4,htn⟩:=fin (some (.goto t)) W3 hk3
     exact ⟨_,_,hr,.inr ⟨rfl,midX _ hk3,.goto t,hIx _ _ _ _ hi3 htn,hl4,hk4⟩⟩
    | panic ch=>exact hp.elim
    | outgrown=>exact hp.elim
   | ret=>exact hp.elim
   | exit id=>exact hp.elim
   | goto t=>exact hp.elim
   | panic ch=>exact hp.elim
   | outgrown=>exact hp.elim
  ·rintro e W2 ⟨⟨v,rfl⟩,(⟨hi,hl,hk⟩ | ⟨i,hiN,c,hi,hl,hk⟩)⟩
   ·have hlt:w.heap.size+1 < W2.heap.size:=(Array.getElem?_eq_some_iff.1 hl).1
    exact ⟨none,_,by have:=run_endLoop (P:=P) hl (by rw [hrec];simp);rw [hrec] at this;exact this,hdone _ _ (Nat.le_refl _) (hI _ _ _ hi (hput hl _)) ((World.putObj_heap_other (by omega)).trans hk)⟩
   ·have hlt:w.heap.size+1 < W2.heap.size:=(Array.getElem?_eq_some_iff.1 hl).1
    exact ⟨some c,_,by have:=run_endLoop (P:=P) hl (by rw [hrec];simp);rw [hrec] at this;exact this,hstop _ c i _ (Nat.le_refl _) hiN (hIx _ _ _ _ hi (hput hl _)) ((World.putObj_heap_other (by omega)).trans hk)⟩
theorem yield_any {m m':Nat} {P:Program} {l l':Nat} {args:Array Value} {W:World} {R:Ending→World→Prop} (h:YieldAt Fence.wide m P l args W R):YieldAt (Fence.wide.inRound l') m' P l args W R:=by
 obtain ⟨fn,tmps,assign,body,hy,hR⟩:=h
 exact ⟨fn,tmps,assign,body,hy,hR.1,fun c cs _=>hR.2 c cs (room_wide _)⟩
theorem filt_at (q:Nat→Bool) (N i:Nat) (hi:i < N) (hq:q i=true):((List.range N).filter q)[((List.range i).filter q).length]? =some i:=by
 obtain ⟨d,rfl⟩:∃ d,N=i+(d+1):=⟨N - i - 1,by omega⟩
 rw [List.range_add,List.filter_append,List.getElem?_append_right (Nat.le_refl _),Nat.sub_self,List.range_succ_eq_map,List.map_cons,List.filter_cons]
 simp [hq]
theorem filt_yes (q:Nat→Bool) (i:Nat) (h:q i=true):((List.range (i+1)).filter q).length=((List.range i).filter q).length+1:=by
 rw [List.range_succ,List.filter_append,List.length_append]
 simp [h]
theorem filt_no (q:Nat→Bool) (i:Nat) (h:q i=false):((List.range (i+1)).filter q).length=((List.range i).filter q).length:=by
 rw [List.range_succ,List.filter_append,List.length_append]
 simp [h]
theorem filt_lt (q:Nat→Bool) (N i:Nat) (hi:i < N) (hq:q i=true):((List.range i).filter q).length < ((List.range N).filter q).length:=(List.getElem?_eq_some_iff.1 (filt_at q N i hi hq)).1
end Go.Proofs.YtlgkfeeclgcgbaaGreatDoor.Ri
/- A RING IN MEMORY; where its places are. Own work of the verifier. -/
namespace Go.Proofs.YtlgkfeeclgcgbaaGreatDoor.Ri
open Go.RowKit Me
def OS (B:Nat) (r:Rs) (W:World):Prop:=∃ J:List Rv,W.ownsRow B 86 11 r.2 J.length (flV J)∧(∀ x ∈ J,OwnL B x.2.1 x.1.d.labels W∧OwnC B x.2.2 x.1.cs W)∧Dj J∧J.map (·.1)=r.1.vs
theorem OS.below {B:Nat} {r:Rs} {W W1:World} (h:OS B r W) (hb:Below W.heap.size W W1):OS B r W1:=by
 obtain ⟨J,h1,h2,h3,h4⟩:=h
 exact ⟨J,own_belG h1 hb,fun x hx=>⟨own_belG (h2 x hx).1 hb,own_belG (h2 x hx).2 hb⟩,h3,h4⟩
theorem OS.at_ {B:Nat} {r:Rs} {W:World} (h:OS B r W) (hB:B≤W.heap.size):SnAt W r.1 (sx r):=by
 obtain ⟨J,h1,h2,h3,h4⟩:=h
 refine ⟨_,rfl,?_⟩
 rw [← h4]
 exact GV.sv (B:=B) (W0:=W) ⟨h1,Below.refl _ _,hB⟩ (fun x hx=>⟨(h2 x hx).1.slb,(h2 x hx).2.sn hB⟩)
theorem OS.of {w W:World} {r:Rs} {J:List Rv} (h:JV w r.2 J W) (hJ:J.map (·.1)=r.1.vs):OS w.heap.size r W:=⟨J,h.g.own,h.el,h.dj,hJ⟩
theorem OS.le {B B':Nat} {r:Rs} {W:World} (h:OS B r W) (hb:B'≤B):OS B' r W:=by
 obtain ⟨J,h1,h2,h3,h4⟩:=h
 exact ⟨J,own_leG h1 hb,fun x hx=>⟨own_leG (h2 x hx).1 hb,own_leG (h2 x hx).2 hb⟩,h3,h4⟩
theorem OS.chg {B:Nat} {r:Rs} {W W1:World} {S:Nat→Prop} (h:OS B r W) (k:Chg S W W1) (hS:∀ p,S p→∃ cs t z,W.heap[p]? =some (.cells cs t z)∧t≠86∧t≠152∧t≠174):OS B r W1:=by
 obtain ⟨J,h1,h2,h3,h4⟩:=h
 refine ⟨J,k.row h1 (fun p e q=>?_),fun x hx=>⟨k.row (h2 x hx).1 (fun p e q=>?_),k.row (h2 x hx).2 (fun p e q=>?_)⟩,h3,h4⟩
 ·obtain ⟨cs,t,z,g,n1,n2,n3⟩:=hS p q
  exact own_notype h1 g (fun e'=>n1 e'.symm) e
 ·obtain ⟨cs,t,z,g,n1,n2,n3⟩:=hS p q
  exact own_notype (h2 x hx).1 g (fun e'=>n2 e'.symm) e
 ·obtain ⟨cs,t,z,g,n1,n2,n3⟩:=hS p q
  exact own_notype (h2 x hx).2 g (fun e'=>n3 e'.symm) e
def flT (T:List Int):List Value:=T.map fun x=>.int .i64 x
structure Rg (B b n:Nat) (T:List Int) (R:List Rs) (k:Nat) (tv sv:Value) (W:World):Prop where
 hd:W.heap[b]? =some (.cells #[.int .i64 (n:Int),tv,sv,.int .i64 (k:Int)] 72 (0,0))
 ti:W.ownsRow B 2 1 tv T.length (flT T)
 sn:W.ownsRow B 50 3 sv R.length (flS R)
 el:∀ r ∈ R,OS B r W
 hl:T.length=R.length
 hn:R.length≤n
 hm:n≤256
 hk:k=0∨k < R.length
 hB:B≤b
theorem Rg.lt {B b n k:Nat} {T:List Int} {R:List Rs} {tv sv:Value} {W:World} (h:Rg B b n T R k tv sv W):b < W.heap.size:=(Array.getElem?_eq_some_iff.1 h.hd).1
theorem Rg.below {B b n k:Nat} {T:List Int} {R:List Rs} {tv sv:Value} {W W1:World} (h:Rg B b n T R k tv sv W) (hb:Below W.heap.size W W1):Rg B b n T R k tv sv W1 :=
 ⟨hkN h.hd hb,own_belG h.ti hb,own_belG h.sn hb,fun r hr=>(h.el r hr).below hb,h.hl,h.hn,h.hm,h.hk,h.hB⟩
theorem four_cells {W:World} {b:Nat} {x y z u:Value} {t:TypeId} (h:W.heap[b]? =some (.cells #[x,y,z,u] t (0,0))):W.cell? ⟨b,0,none⟩=some x∧W.cell? ⟨b,1,none⟩=some y∧W.cell? ⟨b,2,none⟩=some z∧W.cell? ⟨b,3,none⟩=some u∧∀ i,W.frozen? ⟨b,i,none⟩=false :=
 ⟨by simp [World.cell?,h],by simp [World.cell?,h],by simp [World.cell?,h],by simp [World.cell?,h],fun i=>by simp [World.frozen?,h]⟩
theorem Rg.rw {B b n k:Nat} {T:List Int} {R:List Rs} {tv sv:Value} {W:World} (h:Rg B b n T R k tv sv W):∃ tg tc sg sc ta sa,tv=.slice ta R.length tc∧sv=.slice sa R.length sc∧Rw b T R k tg tc sg sc ta sa W:=by
 obtain ⟨ta,tg,tc,e1,h1,-⟩:=own_slice h.ti
 obtain ⟨sa,sg,sc,e2,h2,-⟩:=own_slice h.sn
 rw [h.hl] at e1 h1
 subst e1 e2
 obtain ⟨c0,c1,c2,c3,-⟩:=four_cells h.hd
 refine ⟨tg,tc,sg,sc,ta,sa,rfl,rfl,c1,c2,c3,fun i hi=>?_,fun i hi=>?_,fun q=>⟨h1 q,h2 q⟩,h.hl,Nat.le_trans h.hn h.hm,?_,fun r hr=>?_⟩
 ·have e:=h1 (by have:=h.hl;omega)
  have:=h.ti
  rw [e,← h.hl] at this
  rw [this.cellAt i (by omega)]
  simp [flT,hi]
 ·have e:=h2 (by omega)
  have:=h.sn
  rw [e] at this
  refine ⟨?_,?_,?_⟩
  ·have q:=this.cellAt (i*3) (by omega)
   have f:=flS_get R i 0 hi (by omega)
   rw [Nat.add_zero] at f
   rw [q,f]
   rfl
  ·rw [this.cellAt (i*3+1) (by omega),flS_get R i 1 hi (by omega)]
   rfl
  ·rw [this.cellAt (i*3+2) (by omega),flS_get R i 2 hi (by omega)]
   rfl
 ·have:=h.hk
  have:=h.hn
  have:=h.hm
  omega
 ·obtain ⟨J,k1,-⟩:=h.el r hr
  obtain ⟨a,g,c,e,-⟩:=own_slice k1
  exact ⟨a,_,c,e⟩
end Go.Proofs.YtlgkfeeclgcgbaaGreatDoor.Ri
/- A RING THAT GROWS, AND IS WRITTEN OVER: memory. Own work of the verifier. -/
namespace Go.Proofs.YtlgkfeeclgcgbaaGreatDoor.Ri
open Go.RowKit Me
theorem own_block {W:World} {B:Nat} {e:TypeId} {s n p:Nat} {v:Value} {xs:List Value} (h:W.ownsRow B e s v n xs) (hp:v.ownBlock=some p):∃ cs z,W.heap[p]? =some (.cells cs e z):=by
 rcases h.2 with ⟨rfl,_⟩ | ⟨g,cap,cur,rfl,_,hg,_⟩
 ·cases hp
 ·cases hp
  exact ⟨_,_,hg⟩
structure Rh (B b n:Nat) (T:List Int) (R:List Rs) (k:Nat) (tv sv:Value) (W:World):Prop where
 hd:W.heap[b]? =some (.cells #[.int .i64 (n:Int),tv,sv,.int .i64 (k:Int)] 72 (0,0))
 ti:W.ownsRow B 2 1 tv T.length (flT T)
 sn:W.ownsRow B 50 3 sv R.length (flS R)
 el:∀ r ∈ R,OS B r W
 hB:B≤b
theorem Rg.rh {B b n k:Nat} {T:List Int} {R:List Rs} {tv sv:Value} {W:World} (h:Rg B b n T R k tv sv W):Rh B b n T R k tv sv W:=⟨h.hd,h.ti,h.sn,h.el,h.hB⟩
theorem Rh.below {B b n k:Nat} {T:List Int} {R:List Rs} {tv sv:Value} {W W1:World} (h:Rh B b n T R k tv sv W) (hb:Below W.heap.size W W1):Rh B b n T R k tv sv W1:=⟨hkN h.hd hb,own_belG h.ti hb,own_belG h.sn hb,fun r hr=>(h.el r hr).below hb,h.hB⟩
theorem Rh.lt {B b n k:Nat} {T:List Int} {R:List Rs} {tv sv:Value} {W:World} (h:Rh B b n T R k tv sv W):b < W.heap.size:=(Array.getElem?_eq_some_iff.1 h.hd).1
theorem ne1:(2:TypeId)≠72:=by decide
theorem ne2:(50:TypeId)≠72:=by decide
theorem ne3:(50:TypeId)≠2:=by decide
theorem t1V:(2:TypeId)≠86∧(2:TypeId)≠152∧(2:TypeId)≠174:=by decide
theorem t3V:(50:TypeId)≠86∧(50:TypeId)≠152∧(50:TypeId)≠174:=by decide
theorem tRV:(72:TypeId)≠86∧(72:TypeId)≠152∧(72:TypeId)≠174:=by decide
theorem chg_set (W:World) (p i:Nat) (u:Value):Chg (fun y=>y=p) W (W.setCell ⟨p,i,none⟩ u):=⟨rfl,rfl,rfl,by simp,fun k _ hn=>Below.heap_setCell _ _ _ _ hn⟩
theorem Rh.grow1 {B b n k:Nat} {T:List Int} {R:List Rs} {tv sv:Value} {W W':World} (h:Rh B b n T R k tv sv W) (hg:W.grownBy W' tv.ownBlock):W'.heap[b]? =some (.cells #[.int .i64 (n:Int),tv,sv,.int .i64 (k:Int)] 72 (0,0))∧W'.ownsRow B 50 3 sv R.length (flS R)∧(∀ r,OS B r W→OS B r W') :=
 ⟨(hg.block b h.lt (fun e=>own_notype h.ti h.hd ne1 e.symm)).trans h.hd,World.ownsRow.kept h.sn hg (own_apart h.sn h.ti ne3),fun r hr=>hr.chg (Chg.of_grown (S:=fun p=>tv.ownBlock=some p) hg (fun x e=>e)) (fun p e=>by
  obtain ⟨cs,z,q⟩:=own_block h.ti e
  exact ⟨_,_,_,q,t1V⟩)⟩
theorem Rh.grow2 {B b n k:Nat} {T:List Int} {R:List Rs} {tv sv:Value} {W W':World} (h:Rh B b n T R k tv sv W) (hg:W.grownBy W' sv.ownBlock):W'.heap[b]? =some (.cells #[.int .i64 (n:Int),tv,sv,.int .i64 (k:Int)] 72 (0,0))∧W'.ownsRow B 2 1 tv T.length (flT T)∧(∀ r,OS B r W→OS B r W') :=
 ⟨(hg.block b h.lt (fun e=>own_notype h.sn h.hd ne2 e.symm)).trans h.hd,World.ownsRow.kept h.ti hg (own_apart h.ti h.sn (fun e=>ne3 e.symm)),fun r hr=>hr.chg (Chg.of_grown (S:=fun p=>sv.ownBlock=some p) hg (fun x e=>e)) (fun p e=>by
  obtain ⟨cs,z,q⟩:=own_block h.sn e
  exact ⟨_,_,_,q,t3V⟩)⟩
theorem own_grown {B:Nat} {w W W':World} {e:TypeId} {s n:Nat} {v:Value} {xs:List Value} (h:W.ownsRow B e s v n xs) (hb:Below B w W) (hB:B≤W.heap.size) (hg:W.grownBy W' v.ownBlock):Below B w W':=hb.grown hg hB (fun k e=>by
 rcases own_atG h with q | ⟨g,q,q1,_⟩
 ·rw [q] at e;cases e
 ·rw [q] at e;cases e;exact q1)
theorem Rh.time {B b n k:Nat} {T:List Int} {R:List Rs} {tv sv tv':Value} {t:Int} {W W':World} (h:Rh B b n T R k tv sv W) (hown:W'.ownsRow B 2 1 tv' (T.length+1) (flT T++flT [t])) (hg:W.grownBy W' tv.ownBlock):Rh B b n (T++[t]) R k tv' sv (W'.setCell ⟨b,1,none⟩ tv'):=by
 obtain ⟨k1,k2,k3⟩:=h.grow1 hg
 have e:flT (T++[t])=flT T++flT [t]:=List.map_append
 have hti:W'.ownsRow B 2 1 tv' (T++[t]).length (flT (T++[t])):=by rw [e,List.length_append];exact hown
 refine ⟨?_,own_set hti (own_notype hti k1 ne1) _,own_set k2 (own_notype k2 k1 ne2) _,fun r hr=>(k3 r (h.el r hr)).chg (chg_set W' b 1 tv') (fun p e=>?_),h.hB⟩
 ·rw [heap_setCell_same _ _ 1 _ _ _ k1];rfl
 ·subst e;exact ⟨_,_,_,k1,tRV⟩
theorem Rh.snap {B b n k:Nat} {T:List Int} {R:List Rs} {tv sv sv':Value} {r:Rs} {W W':World} (h:Rh B b n T R k tv sv W) (ho:OS B r W) (hown:W'.ownsRow B 50 3 sv' (R.length+1) (flS R++flS [r])) (hg:W.grownBy W' sv.ownBlock):Rh B b n T (R++[r]) k tv sv' (W'.setCell ⟨b,2,none⟩ sv'):=by
 obtain ⟨k1,k2,k3⟩:=h.grow2 hg
 have hsn:W'.ownsRow B 50 3 sv' (R++[r]).length (flS (R++[r])):=by rw [flS_append,List.length_append];exact hown
 refine ⟨?_,own_set k2 (own_notype k2 k1 ne1) _,own_set hsn (own_notype hsn k1 ne2) _,fun q hq=>OS.chg (k3 q ?_) (chg_set W' b 2 sv') (fun p e=>?_),h.hB⟩
 ·rw [heap_setCell_same _ _ 2 _ _ _ k1];rfl
 ·rcases List.mem_append.1 hq with c | c
  ·exact h.el q c
  ·rw [List.mem_singleton] at c
   subst c
   exact ho
 ·subst e;exact ⟨_,_,_,k1,tRV⟩
theorem infoT:(Tryz.prog.info? 2).map (fun i=>(i.zero,i.size,i.bytes))=some (some (.int .i64 0),1,8):=by kernel_rfl
theorem infoS:(Tryz.prog.info? 50).map (fun i=>(i.zero,i.size,i.bytes))=some (some (.agg #[.int .i64 0,.slice none 0 0,.int .u64 0]),3,40):=by kernel_rfl
end Go.Proofs.YtlgkfeeclgcgbaaGreatDoor.Ri
/- lay, newest, New. Own work of the verifier. -/
set_option maxHeartbeats 4000000
namespace Go.Proofs.YtlgkfeeclgcgbaaGreatDoor.Ri
open Go.RowKit Me
theorem rnew_any (n:Nat) (h1:1≤n) (h2:n≤256) (w:World):Calls Tryz.prog 10 #[.int .i64 (n:Int)] w fun e w'=>e=.returned (.tuple #[.pointer (some ⟨w.heap.size,0,none⟩),.int .i64 0])∧w'=w.alloc (.cells #[.int .i64 (n:Int),.slice none 0 0,.slice none 0 0,.int .i64 0] 72):=by
 have c1:¬ (n:Int) < 1:=by omega
 have c2:¬ (256:Int) < (n:Int):=by omega
 go_enter Tryz.func10,Tryz.ntmps10
 go_wp2
 simp [bodyPost,results,Tryz.results10,go_sem]
theorem Rg.new (w:World) (n:Nat) (_h1:1≤n) (h2:n≤256):Rg w.heap.size w.heap.size n [] [] 0 (.slice none 0 0) (.slice none 0 0) (w.alloc (.cells #[.int .i64 (n:Int),.slice none 0 0,.slice none 0 0,.int .i64 0] 72)) :=
 ⟨new_1 _ _,World.ownsRow_nil _ _ _ _,World.ownsRow_nil _ _ _ _,(fun r hr=>by cases hr),rfl,Nat.zero_le _,h2,Or.inl rfl,Nat.le_refl _⟩
theorem newest_any (B b n k:Nat) (T:List Int) (R:List Rs) (tv sv:Value) (w:World) (hg:Rg B b n T R k tv sv w) (h0:0 < R.length) :
  Calls Tryz.prog 18 #[.pointer (some ⟨b,0,none⟩)] w fun e w'=>e=.returned (.int .i64 (T.getD (plc k (R.length - 1) R.length) 0))∧Below w.heap.size w w':=by
 obtain ⟨tg,tc,sg,sc,ta,sa,rfl,rfl,hR⟩:=hg.rw
 obtain ⟨p,hp⟩:∃ p,plc k (R.length - 1) R.length=p:=⟨_,rfl⟩
 have hpl:p < R.length:=by rw [← hp];exact Nat.mod_lt _ h0
 have hpt:p < T.length:=by rw [hR.hl];exact hpl
 obtain ⟨e1,e2⟩:=hR.ho h0
 subst e1 e2
 have hm:=hR.hm
 have HL:Hid (∀ W,W.cell? ⟨b,1,none⟩=some (.slice (some ⟨tg,0,none⟩) R.length tc)→Calls Tryz.prog 17 #[.pointer (some ⟨b,0,none⟩)] W fun e w'=>e=.returned (.int .i64 (R.length:Int))∧w'=W):=fun W h=>len_any b R.length tc _ W h
 have HP:Hid (∀ W,Rw b T R k tg tc sg sc (some ⟨tg,0,none⟩) (some ⟨sg,0,none⟩) W→Calls Tryz.prog 32 #[.pointer (some ⟨b,0,none⟩),.int .i64 ((R.length - 1:Nat):Int)] W fun e w'=>e=.returned (.int .i64 (p:Int))∧Below W.heap.size W w'):=fun W h=>by
  rw [← hp]
  exact h.pl h0 _ (by omega)
 rw [hp,show T.getD p 0=T[p] by simp [List.getD,hpt]]
 obtain ⟨m,hm1⟩:∃ m,R.length - 1=m:=⟨_,rfl⟩
 have hs:IntKind.i64.wrap ((R.length:Int) - 1)=(m:Int):=by rw [IntKind.wrap_i64];omega
 rw [hm1] at HP
 have HR:=hid_of (hR.below (drew_bel1 w))
 have HB:=hid_of (drew_bel1 w)
 have c1:=HR.out.c1
 have hix:=index_tm tg R.length tc p (p:Int) rfl hpl
 have ct:=HR.out.t p hpt
 go_enter Tryz.func18,Tryz.ntmps18
 go_wp2
 go_region_with (first
  | (go_at_call 17;with_reducible refine (HL.out _ c1).mono ?_;rintro e w1 ⟨rfl,rfl⟩)
  | (go_at_call 32;with_reducible refine (HP.out _ HR.out).mono ?_;rintro e w1 ⟨rfl,hb1⟩;have HB1:=hid_of (bt HB.out hb1);have c1':=cellB hb1 c1;have ct':=cellB hb1 ct))
 all_goals
  go_wp2
  go_ret
  exact ⟨rfl,HB1.out⟩
end Go.Proofs.YtlgkfeeclgcgbaaGreatDoor.Ri
/- THE ITERATOR round a ring. Own work of the verifier. -/
set_option maxRecDepth 100000
set_option maxHeartbeats 4000000
namespace Go.Proofs.YtlgkfeeclgcgbaaGreatDoor.Ri
open Go.RowKit Go.Shelf Me
attribute [local go_sem] Oper.semAt_some
theorem seq_lt {P:Program} {l:Nat} {args:Array Value} {m n0 B:Nat} {W:World} {J Jx:World→Prop} (h:YieldAt Fence.wide m P l args W fun e W'=>(e=.returned (.bool true)∧Mid n0 B W W'∧J W')∨(e=.returned (.bool false)∧MidX n0 B l W W'∧Jx W')) :
  YieldAt Fence.wide m P l args W fun e W'=>∃ c:Bool,e=.returned (.bool c)∧Hid ((c=true→Mid n0 B W W'∧J W')∧(c=false→Jx W')):=h.mono (by
 rintro e w (⟨rfl,h1,h2⟩ | ⟨rfl,-,h3⟩)
 ·exact ⟨true,rfl,fun _=>⟨h1,h2⟩,fun k=>by cases k⟩
 ·exact ⟨false,rfl,(fun k=>by cases k),fun _=>h3⟩)
theorem all_seq (m Bx n0 B b k tg tc sg sc:Nat) (T:List Int) (R:List Rs) (ta sa:Option Addr) (w:World) (hBx:w.cell? ⟨Bx,0,none⟩=some (.pointer (some ⟨b,0,none⟩))) (hB:B≤Bx) (hn:n0≤B) (hR:∀ W,Below n0 w W→Rw b T R k tg tc sg sc ta sa W) :
  SeqX Tryz.prog m 52 #[.pointer (some ⟨Bx,0,none⟩)] n0 B R.length (encR T R k) w:=by
 intro l J Jx W hWb hsz hl hlW hJ hJx hY h0
 have hBlt:Bx < w.heap.size:=World.block_lt_of_cell? w _ hBx
 have hBs1:W.cell? ⟨Bx,0,none⟩=some (.pointer (some ⟨b,0,none⟩)):=(hWb.cell (p:=⟨Bx,0,none⟩) hBlt).trans hBx
 have HR:=hid_of hR
 have HW0:Hid (Below n0 w W):=hWb.mono (by omega)
 have HN:Hid (n0≤w.heap.size∧Bx < w.heap.size∧B≤Bx):=⟨by omega,hBlt,hB⟩
 have HL:Hid (∀ W,W.cell? ⟨b,1,none⟩=some (.slice ta R.length tc)→CallsIn Fence.wide (m - 1) Tryz.prog 17 #[.pointer (some ⟨b,0,none⟩)] W fun e w'=>e=.returned (.int .i64 (R.length:Int))∧w'=W):=fun W h=>callsIn_wide.2 (len_any b R.length tc ta W h)
 have HP:Hid (∀ W i,Below n0 w W→i < R.length→CallsIn Fence.wide (m - 1) Tryz.prog 32 #[.pointer (some ⟨b,0,none⟩),.int .i64 (i:Int)] W fun e w'=>e=.returned (.int .i64 (plc k i R.length:Nat))∧Below W.heap.size W w'):=fun W i h hi=>callsIn_wide.2 ((hR W h).pl (by omega) i (by have:=(hR W h).hm;omega))
 have hm256:R.length≤256:=(hR W HW0.out).hm
 have hmo:Tryz.prog.follows .mixedOrders=true:=by kernel_rfl
 clear hBx hR
 have r1:=(HR.out W HW0.out).c1
 refine callsIn_of_wp Tryz.func52 rfl trivial ?_ rfl
 simp only [Tryz.ntmps52,List.size_toArray,List.length_cons,List.length_nil,Nat.reduceAdd,Nat.reduceSub,Array.replicate_succ,Array.replicate_zero,List.push_toArray,List.append_toArray,List.nil_append,List.cons_append]
 gi_wp2_with (refine ⟨trivial,(fun h=>by simp [Fence.wide] at h),?_⟩;gi_at_call 17;refine (HL.out _ r1).mono ?_;rintro e W ⟨rfl,rfl⟩)
 have HX:Hid (W.cell? ⟨Bx,0,none⟩=some (.pointer (some ⟨b,0,none⟩))):=hBs1
 clear r1 hBs1
 gi_loopw [7] (fun i wr=>∃ j:Nat,j≤R.length∧i=.int .i64 j∧J j wr∧Hid (Below n0 w wr)∧Hid (wr.heap[Bx]? =W.heap[Bx]?)∧Hid (W.heap.size≤wr.heap.size))
  (fun i _=>R.length - (intOf i).toNat)
 case atStart=>exact ⟨0,Nat.zero_le _,rfl,h0,HW0,rfl,Nat.le_refl _⟩
 case round =>
  obtain ⟨j,hj,rfl,hJs,HBw,HBx,HSz⟩:=hrel
  by_cases hlt:j < R.length
  ·have hlt':(j:Int) < (R.length:Int):=by omega
   have q0:wr.cell? ⟨Bx,0,none⟩=some (.pointer (some ⟨b,0,none⟩)):=by
    unfold World.cell? at HX ⊢
    rw [HBx.out]
    exact HX.out
   obtain ⟨p,hp⟩:∃ p,plc k j R.length=p:=⟨_,rfl⟩
   have HPj:Hid (∀ W,Below n0 w W→CallsIn Fence.wide (m - 1) Tryz.prog 32 #[.pointer (some ⟨b,0,none⟩),.int .i64 (j:Int)] W fun e w'=>e=.returned (.int .i64 (p:Int))∧Below W.heap.size W w'):=fun W h=>by
    rw [← hp]
    exact HP.out W j h hlt
   gi_upto_region 4 with (refine ⟨trivial,(fun h=>by simp [Fence.wide] at h),?_⟩;gi_at_call 32;refine (HPj.out _ HBw.out).mono ?_;rintro e w1 ⟨rfl,hb1⟩)
   have HB1:Hid (Below n0 w w1):=HBw.out.trans (hb1.mono (by have:=HN.out.1;have:=HSz.out;have:=HW0.out.size;omega))
   have HK1:=hid_of hb1
   have HBx1:Hid (w1.heap[Bx]? =W.heap[Bx]?):=(hb1.block _ (by have:=HN.out.2.1;have:=HSz.out;have:=HW0.out.size;omega)).trans HBx.out
   have HS1:Hid (W.heap.size≤w1.heap.size):=Nat.le_trans HSz.out hb1.size
   have q1:w1.cell? ⟨Bx,0,none⟩=some (.pointer (some ⟨b,0,none⟩)):=cellB hb1 q0
   have HRw:=hid_of (HR.out w1 HB1.out)
   have hpl:p < R.length:=by rw [← hp];exact Nat.mod_lt _ (by omega)
   have hpt:p < T.length:=by rw [HRw.out.hl];exact hpl
   have HE:Hid (YieldAt Fence.wide (m - 1) Tryz.prog l #[.int .i64 T[p],.agg #[.int .i64 R[p].1.p,R[p].2,.int .u64 (R[p].1.r:Int)]] w1.drew fun e W'=>∃ c:Bool,e=.returned (.bool c)∧Hid ((c=true→Mid n0 B w1.drew W'∧J (j+1) W')∧(c=false→Jx (j+1) W'))):=by
    have:=seq_lt (hY j w1.drew hlt (hJ _ _ _ hJs (Tn.of (bt hb1 (drew_bel1 w1)))))
    unfold encR at this
    rw [hp] at this
    simp only [List.getD,List.getElem?_eq_getElem hpt,List.getElem?_eq_getElem hpl,Option.getD_some] at this
    exact this
   obtain ⟨e1,e2⟩:=HRw.out.ho (by omega)
   subst e1 e2
   have x1:=HRw.out.c1
   have x2:=HRw.out.c2
   have x3:=HRw.out.t p hpt
   obtain ⟨x4,x5,x6⟩:=HRw.out.s p hpl
   have i1:=index_tm tg R.length tc p (p:Int) rfl hpl
   have i2:=index_sn sg R.length sc p (p:Int) rfl hpl
   clear hb1 hJs
   generalize T[p]=tx at *
   generalize R[p]=rx at *
   obtain ⟨fn,tmps,assign,body,hy,hRd⟩:=HE.out
   clear HE q0
   gi_region_with_o (refine ⟨fun h=>by simp [Fence.wide] at h,hRd.mono ?_⟩;rintro e W4 ⟨c,rfl,HQ⟩)
   all_goals
    cases c with
    | true =>
     obtain ⟨hM,hJ4⟩:=HQ.out.1 rfl
     have HM:=hid_of hM
     clear hM HQ
     gi_wp2
     go_roundw
     case rel =>
      have z1:=HN.out
      have z2:=HW0.out.size
      have z3:=HS1.out
      have z4:=HM.out.size
      refine ⟨j+1,by omega,by simp,hJ4,HB1.out.drew.trans (HM.out.toBelow (Nat.le_trans z1.1 (Nat.le_trans z2 z3))),?_,Nat.le_trans z3 z4⟩
      exact (HM.out.block Bx (Nat.lt_of_lt_of_le (Nat.lt_of_lt_of_le z1.2.1 z2) z3) (by omega)).trans HBx1.out
     case measure=>simp [intOf];omega
    | false =>
     have hJ4:=HQ.out.2 rfl
     clear HQ
     gi_wp2
     refine bodyPost_ret (results_none rfl _ _ _) rfl ?_
     exact ⟨⟨_,rfl⟩,.inr ⟨j+1,by omega,hJ4⟩⟩
  ·obtain rfl:j=R.length:=by omega
   have hlt':¬ (R.length:Int) < (R.length:Int):=by omega
   gi_wp2
   go_end0
   exact ⟨⟨_,rfl⟩,.inl hJs⟩
end Go.Proofs.YtlgkfeeclgcgbaaGreatDoor.Ri
