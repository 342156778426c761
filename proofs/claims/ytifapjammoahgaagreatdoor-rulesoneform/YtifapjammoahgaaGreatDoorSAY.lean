/- A RANGE OVER AN ITERATOR: what a round that ends it keeps is told too. Own work of the verifier. -/
import Derived.Test.YtifapjammoahgaaGreatDoorSAX
import Derived.Test.YtifapjammoahgaaGreatDoorSAL
import Derived.Sort.CutIn
set_option maxHeartbeats 1000000
namespace Go.Proofs.YtifapjammoahgaaGreatDoor.Ri
open Go.RowKit Go.Shelf Me
attribute [local go_sem] Oper.semAt_some
structure Tn (B:Nat) (W W':World):Prop where
  os:W'.os=W.os
  tape:W'.tape=W.tape
  output:W'.output=W.output
  size:W.heap.size≤W'.heap.size
  block:∀ k o,W.heap[k]? =some o→(k < B∨∃ c t z,o=.cells c t z)→W'.heap[k]? =some o
theorem Tn.of {B:Nat} {W W':World} (h:Below W.heap.size W W'):Tn B W W':=⟨h.os,h.tape,h.output,h.size,fun k _o e _=>(h.block k (Array.getElem?_eq_some_iff.1 e).1).trans e⟩
theorem Tn.mono {B B':Nat} {W W':World} (h:Tn B W W') (hb:B'≤B):Tn B' W W':=⟨h.os,h.tape,h.output,h.size,fun k o e q=>h.block k o e (q.imp (fun x=>by omega) id)⟩
theorem Tn.at_ {B k:Nat} {W W':World} {o:Obj} (h:Tn B W W') (e:W.heap[k]? =some o) (hk:k < B):W'.heap[k]? =some o:=h.block k o e (.inl hk)
theorem Tn.cells {B k:Nat} {W W':World} {c:Array Value} {t:TypeId} {z:Nat × Nat} (h:Tn B W W') (e:W.heap[k]? =some (.cells c t z)):W'.heap[k]? =some (.cells c t z):=h.block k _ e (.inr ⟨_,_,_,rfl⟩)
theorem Tn.put {B l:Nat} {W:World} {r:Loop} (h:W.heap[l]? =some (.loop r)) (hl:B≤l) (o:Obj):Tn B W (W.putObj l o):=⟨rfl,rfl,rfl,by simp [World.putObj],fun k o' e q=>by
  by_cases ek:k=l
  · subst ek
    rw [h] at e
    cases e
    rcases q with q | ⟨_,_,_,q⟩
    · omega
    · cases q
  · exact (World.putObj_heap_other ek).trans e⟩
theorem Tn.putD {B D:Nat} {W:World} {d:Option (List Deferred)} (h:W.heap[D]? =some (.deferred d)) (hl:B≤D) (o:Obj):Tn B W (W.putObj D o):=⟨rfl,rfl,rfl,by simp [World.putObj],fun k o' e q=>by
  by_cases ek:k=D
  · subst ek
    rw [h] at e
    cases e
    rcases q with q | ⟨_,_,_,q⟩
    · omega
    · cases q
  · exact (World.putObj_heap_other ek).trans e⟩
theorem Tn.below {B:Nat} {W W':World} (h:Tn B W W') (hB:B≤W.heap.size):Below B W W':=⟨h.os,h.tape,h.output,h.size,fun k hk=>by
  have hlt:k < W.heap.size:=by omega
  rw [Array.getElem?_eq_getElem hlt]
  exact h.block k _ (Array.getElem?_eq_getElem hlt) (.inl hk)⟩
structure MidX (n0 B l:Nat) (W W':World):Prop where
  os:W'.os=W.os
  tape:W'.tape=W.tape
  output:W'.output=W.output
  size:W.heap.size≤W'.heap.size
  block:∀ k,k < W.heap.size→¬ (n0≤k∧k < B)→k≠l→W'.heap[k]? =W.heap[k]?
def SeqX (P:Program) (m:Nat) (gf:Nat) (lb:Array Value) (n0 B N:Nat) (encs:Nat→Array Value) (w:World):Prop :=
  ∀ (l:Nat) (J Jx:Nat→World→Prop) (W:World),Below w.heap.size w W→w.heap.size≤W.heap.size→w.heap.size≤l→l < W.heap.size →
    (∀ i A A',J i A→Tn W.heap.size A A'→J i A')→(∀ i A A',Jx i A→Tn W.heap.size A A'→Jx i A') →
    (∀ i W1,i < N→J i W1→YieldAt Fence.wide (m - 1) P l (encs i) W1 fun e W'=>(e=.returned (.bool true)∧Mid n0 B W1 W'∧J (i+1) W')∨(e=.returned (.bool false)∧MidX n0 B l W1 W'∧Jx (i+1) W')) →
    J 0 W →
    CallsIn Fence.wide m P gf (#[.func (.yield l) #[] #[]]++lb) W fun e W'=>(∃ v,e=.returned v)∧(J N W'∨∃ i,i≤N∧Jx i W')
theorem wpIn_rangeFunc_seqX {P:Program} {n:Nat} {g:Operand} {ps:Array Tmp} {assign body:Code} {Q:Exit→Act→World→Prop} {a:Act} {w:World}
    {gf:Nat} {lb:Array Value} (hg:a.eval g=.func (.func gf) #[] lb) (eg:∀ args w,(callFunc gf args).run P w=.ok (.enter gf args) w)
    {n0 B N:Nat} {encs:Nat→Array Value} (hB:B≤w.heap.size) (hseq:SeqX P (n - 1) gf lb n0 B N encs w) (hps:∀ i,(encs i).size=ps.size)
    (I:Nat→World→Prop) (Ix:Code→Nat→World→Prop) (hI:∀ i A A',I i A→Tn w.heap.size A A'→I i A') (hIx:∀ c i A A',Ix c i A→Tn w.heap.size A A'→Ix c i A') (h0:I 0 w)
    (hround:∀ (l i:Nat) (W:World),i < N→w.heap.size≤l→l < W.heap.size→I i W →
      assign.wpIn (Fence.wide.inRound l) (n - 1 - 1) P (Exit.then (fun a1 W1=>Below W.heap.size W W1∧∀ W2,I i W2→W2.heap.size=W1.heap.size→(∀ k,k≠l→W2.heap[k]? =W1.heap[k]?) →
        body.wpIn (Fence.wide.inRound l) (n - 1 - 1) P (midPost n0 B I Ix (i+1) W2) a1 W2) (fun _ _ _=>False)) { tmps:=(ps.zip (encs i)).foldl (fun t (p,v)=>t.setIfInBounds p v) a.tmps,defers:=[] } W)
    (hdone:∀ (D:Nat) (W:World),w.heap.size≤D→I N W→W.heap[D]? =some (.deferred (some []))→Q .normal { a with defers:={ target:=.collected D,args:=#[] }::a.defers } W)
    (hstop:∀ (D:Nat) (c:Code) (i:Nat) (W:World),w.heap.size≤D→i≤N→Ix c i W→W.heap[D]? =some (.deferred (some []))→c.wpIn Fence.wide n P Q { a with defers:={ target:=.collected D,args:=#[] }::a.defers } W) :
    (Code.rangeFunc g ps assign body).wpIn Fence.wide n P Q a w:=by
  refine wpIn_rangeFunc ?_
  intro fn hfn
  show ∃ l mark w₁ d w₁' f args w₂,(Instr.enterLoop fn a.tmps ps assign body none).run P w=.ok (l,mark) w₁∧_
  obtain ⟨rec,hrec⟩:∃ rec:LoopState→Option Code→Loop,rec=fun st pe=>{ state:=st,pending:=pe,fn,tmps:=a.tmps,params:=ps,assign,body,defers:=w.heap.size }:=⟨_,rfl⟩
  obtain ⟨W1,hW1⟩:∃ W1,(w.alloc (.deferred (some []))).alloc (.loop (rec .ready none))=W1:=⟨_,rfl⟩
  have hs1:W1.heap.size=w.heap.size+1+1:=by rw [← hW1];simp
  have hL1:W1.heap[w.heap.size+1]? =some (.loop (rec .ready none)):=by
    rw [← hW1];have:=World.alloc_heap_new (w.alloc (.deferred (some []))) (.loop (rec .ready none));rwa [World.size_alloc] at this
  have hK1:W1.heap[w.heap.size]? =some (.deferred (some [])):=by
    rw [← hW1];exact (Below.heap_alloc _ _ _ (by simp)).trans (World.alloc_heap_new w _)
  have hb1:Below w.heap.size w W1:=by
    rw [← hW1];exact ((Below.refl _ w).alloc (Nat.le_refl _) _).alloc (by simp) _
  refine ⟨w.heap.size+1,[{ target:=.collected w.heap.size,args:=#[] }],W1,{ target:=.fn (.func gf) lb,args:=#[.func (.yield (w.heap.size+1)) #[] #[]] },W1,gf,
    #[.func (.yield (w.heap.size+1)) #[] #[]]++lb,W1,?_,?_,?_,?_,?_,?_⟩
  · rw [← hW1,hrec];exact run_enterLoop_outer _ _ _ _ _
  · simp only [resolve,hg]
    simp [go_sem]
  · intro f' _;exact True.intro
  · simp [invoke,go_sem,eg]
  · intro h;simp [Fence.wide] at h
  · have hput:∀ {A:World} {r:Loop} (_:A.heap[w.heap.size+1]? =some (.loop r)) (o:Obj),Tn w.heap.size A (A.putObj (w.heap.size+1) o):=fun h o=>Tn.put h (Nat.le_succ _) o
    have hputB:∀ (A:World) (o:Obj),w.heap.size+1 < A.heap.size→Below w.heap.size A (A.putObj (w.heap.size+1) o):=fun A o hlt =>
      (Below.refl _ _).grown (grownBy_putObj' A (w.heap.size+1) o) (by omega) (fun k e=>by cases e;omega)
    refine (hseq (w.heap.size+1)
      (fun i W=>I i W∧W.heap[w.heap.size+1]? =some (.loop (rec .ready none))∧W.heap[w.heap.size]? =some (.deferred (some [])))
      (fun i W=>∃ c,Ix c i W∧W.heap[w.heap.size+1]? =some (.loop (rec .done (some c)))∧W.heap[w.heap.size]? =some (.deferred (some [])))
      W1 hb1 (by omega) (by omega) (by omega)
      (fun i A A' hs hb=>⟨hI i A A' hs.1 (hb.mono (by omega)),hb.at_ hs.2.1 (by omega),hb.at_ hs.2.2 (by omega)⟩)
      (fun i A A' hs hb=>by
        obtain ⟨c,hc,hl,hk⟩:=hs
        exact ⟨c,hIx c i A A' hc (hb.mono (by omega)),hb.at_ hl (by omega),hb.at_ hk (by omega)⟩)
      ?_ ⟨hI 0 w W1 h0 (Tn.of hb1),hL1,hK1⟩).mono ?_
    · rintro i W hiN ⟨hi,hl,hk⟩
      have hlt:w.heap.size+1 < W.heap.size:=(Array.getElem?_eq_some_iff.1 hl).1
      have hy:=run_yield (P:=P) (args:=encs i) hl (by rw [hrec];exact hps i)
      rw [hrec] at hy
      refine ⟨fn,_,assign,body,hy,roundIn_of_wpIn hfn (wpIn_mono (hround (w.heap.size+1) i W hiN (by omega) hlt hi) ?_)⟩
      clear hy
      rintro e a1 Wa hp
      cases e with
      | normal =>
        obtain ⟨hba,hbody⟩:=hp
        have hla:=(hba.block _ hlt).trans hl
        have hka:=(hba.block w.heap.size (by omega)).trans hk
        have hlta:w.heap.size+1 < Wa.heap.size:=(Array.getElem?_eq_some_iff.1 hla).1
        refine ⟨_,run_beginRound hla (by rw [hrec]),?_⟩
        obtain ⟨W2,hW2⟩:∃ W2,Wa.putObj (w.heap.size+1) (.loop { rec .ready none with state:=.busy })=W2:=⟨_,rfl⟩
        rw [hW2]
        have hl2:W2.heap[w.heap.size+1]? =some (.loop { rec .ready none with state:=.busy }):=by rw [← hW2];exact World.putObj_heap_same hlta
        have hot:∀ k,k≠w.heap.size+1→W2.heap[k]? =Wa.heap[k]?:=fun k hk'=>by rw [← hW2];exact World.putObj_heap_other hk'
        have hs2:W2.heap.size=Wa.heap.size:=by rw [← hW2];simp [World.putObj]
        have hb2:Below w.heap.size Wa W2:=by rw [← hW2];exact hputB _ _ hlta
        have hb2t:Tn w.heap.size Wa W2:=by rw [← hW2];exact hput hla _
        have hi2:I i W2:=hI i _ _ (hI i _ _ hi (Tn.of hba)) hb2t
        refine wpIn_mono (hbody W2 hi2 hs2 hot) ?_
        have fin:∀ (jump:Option Code) (W3:World),Mid n0 B W2 W3 →
            (Instr.endRound (w.heap.size+1) jump).run P W3=.ok (.bool jump.isNone) (W3.putObj (w.heap.size+1) (.loop (rec (if jump.isNone then .ready else .done) jump))) ∧
            w.heap.size+1 < W3.heap.size ∧
            (W3.putObj (w.heap.size+1) (.loop (rec (if jump.isNone then .ready else .done) jump))).heap[w.heap.size+1]? =some (.loop (rec (if jump.isNone then .ready else .done) jump)) ∧
            (W3.putObj (w.heap.size+1) (.loop (rec (if jump.isNone then .ready else .done) jump))).heap[w.heap.size]? =some (.deferred (some [])) ∧
            Tn w.heap.size W3 (W3.putObj (w.heap.size+1) (.loop (rec (if jump.isNone then .ready else .done) jump))):=fun jump W3 hk3=>by
          have hl3:=(hk3.block _ (by omega) (by omega)).trans hl2
          have hk3':=(hk3.block w.heap.size (by omega) (by omega)).trans ((hot _ (by omega)).trans hka)
          have:=run_endRound (P:=P) jump hl3
          rw [hrec] at this ⊢
          exact ⟨this,(Array.getElem?_eq_some_iff.1 hl3).1,World.putObj_heap_same (Array.getElem?_eq_some_iff.1 hl3).1,(World.putObj_heap_other (by omega)).trans hk3',hput hl3 _⟩
        have midX:∀ (o:Obj) {W3:World},Mid n0 B W2 W3→MidX n0 B (w.heap.size+1) W (W3.putObj (w.heap.size+1) o):=fun o W3 hk3=>by
          refine ⟨hk3.os.trans (hb2.os.trans hba.os),hk3.tape.trans (hb2.tape.trans hba.tape),hk3.output.trans (hb2.output.trans hba.output),?_,fun k hkW hkn ek=>?_⟩
          · have e1:(W3.putObj (w.heap.size+1) o).heap.size=W3.heap.size:=by simp [World.putObj]
            exact Nat.le_trans (Nat.le_trans hba.size (by rw [← hs2];exact hk3.size)) (Nat.le_of_eq e1.symm)
          · exact (World.putObj_heap_other ek).trans ((hk3.block k (by have:=hba.size;omega) hkn).trans ((hot k ek).trans (hba.block k hkW)))
        rintro e a3 W3 hp
        cases e with
        | normal =>
          obtain ⟨hk3,hi3⟩:=hp
          obtain ⟨hr,hlt3,hl4,hk4,htn⟩:=fin none W3 hk3
          refine ⟨_,_,hr,.inl ⟨rfl,?_,hI _ _ _ hi3 htn,hl4,hk4⟩⟩
          refine ⟨hk3.os.trans (hb2.os.trans hba.os),hk3.tape.trans (hb2.tape.trans hba.tape),hk3.output.trans (hb2.output.trans hba.output),?_,fun k hkW hkn=>?_⟩
          · have e1:(W3.putObj (w.heap.size+1) (.loop (rec .ready none))).heap.size=W3.heap.size:=by simp [World.putObj]
            exact Nat.le_trans (Nat.le_trans hba.size (by rw [← hs2];exact hk3.size)) (Nat.le_of_eq e1.symm)
          · by_cases ek:k=w.heap.size+1
            · subst ek;exact hl4.trans hl.symm
            · exact (World.putObj_heap_other ek).trans ((hk3.block k (by have:=hba.size;omega) hkn).trans ((hot k ek).trans (hba.block k hkW)))
        | ret =>
          obtain ⟨hk3,hi3⟩:=hp
          obtain ⟨hr,hlt3,hl4,hk4,htn⟩:=fin (some .ret) W3 hk3
          exact ⟨_,_,hr,.inr ⟨rfl,midX _ hk3,.ret,hIx _ _ _ _ hi3 htn,hl4,hk4⟩⟩
        | exit id =>
          obtain ⟨hk3,hi3⟩:=hp
          obtain ⟨hr,hlt3,hl4,hk4,htn⟩:=fin (some (.exit id)) W3 hk3
          exact ⟨_,_,hr,.inr ⟨rfl,midX _ hk3,.exit id,hIx _ _ _ _ hi3 htn,hl4,hk4⟩⟩
        | goto t =>
          obtain ⟨hk3,hi3⟩:=hp
          obtain ⟨hr,hlt3,hl4,hk4,htn⟩:=fin (some (.goto t)) W3 hk3
          exact ⟨_,_,hr,.inr ⟨rfl,midX _ hk3,.goto t,hIx _ _ _ _ hi3 htn,hl4,hk4⟩⟩
        | panic ch=>exact hp.elim
        | outgrown=>exact hp.elim
      | ret=>exact hp.elim
      | exit id=>exact hp.elim
      | goto t=>exact hp.elim
      | panic ch=>exact hp.elim
      | outgrown=>exact hp.elim
    · rintro e W2 ⟨⟨v,rfl⟩,(⟨hi,hl,hk⟩ | ⟨i,hiN,c,hi,hl,hk⟩)⟩
      · have hlt:w.heap.size+1 < W2.heap.size:=(Array.getElem?_eq_some_iff.1 hl).1
        exact ⟨none,_,by have:=run_endLoop (P:=P) hl (by rw [hrec];simp);rw [hrec] at this;exact this,hdone _ _ (Nat.le_refl _) (hI _ _ _ hi (hput hl _)) ((World.putObj_heap_other (by omega)).trans hk)⟩
      · have hlt:w.heap.size+1 < W2.heap.size:=(Array.getElem?_eq_some_iff.1 hl).1
        exact ⟨some c,_,by have:=run_endLoop (P:=P) hl (by rw [hrec];simp);rw [hrec] at this;exact this,hstop _ c i _ (Nat.le_refl _) hiN (hIx _ _ _ _ hi (hput hl _)) ((World.putObj_heap_other (by omega)).trans hk)⟩
end Go.Proofs.YtifapjammoahgaaGreatDoor.Ri
