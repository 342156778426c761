/- RULES: real.Parse AT EVERY ROW THAT THE READER HANDS ON; PARSE OF EVERY TEXT. Own work of the verifier. -/
import Derived.Test.YtifapjammoahgaaGreatDoorSBO
import Derived.Test.YtifapjammoahgaaGreatDoorSBP
import Derived.Test.YtifapjammoahgaaGreatDoorSAU
import Derived.Test.YtifapjammoahgaaGreatDoorSAK
namespace Go.Proofs.YtifapjammoahgaaGreatDoor.Rl
open Go.RowKit Go.Sort
def Blks (w:World):Prop:=(∃ ca t,w.heap[10]? =some (.cells ca t))∧∃ cb t,w.heap[9]? =some (.cells cb t)
theorem Blks.below {w w':World} (h:Blks w) (hb:Below w.heap.size w w'):Blks w':=by
  obtain ⟨⟨ca,t,h1⟩,cb,u,h2⟩:=h
  exact ⟨⟨ca,t,(hb.block _ (Array.getElem?_eq_some_iff.1 h1).1).trans h1⟩,cb,u,(hb.block _ (Array.getElem?_eq_some_iff.1 h2).1).trans h2⟩
theorem drewN_heap' (w:World) (q:Nat):(w.drewN q).heap=w.heap:=by
  induction q with
  | zero=>rfl
  | succ q ih=>exact ih
theorem Blks.eq {w:World} (h:Blks w) (q:Nat):(binOp .eql 246 (.pointer (some ⟨10,0,none⟩)) (.pointer (some ⟨9,0,none⟩))).run Tryz.prog (w.drewN q)=.ok (.bool false) (w.drewN q):=by
  obtain ⟨⟨ca,t,h1⟩,cb,u,h2⟩:=h
  obtain ⟨j,hj,hs⟩:=Option.map_eq_some_iff.1 (show (Tryz.prog.info? 248).map (·.size)=some 3 by kernel_rfl)
  exact run_eql_ptr_other (w.drewN q) Tryz.underlying246 hj (by rw [hs];decide) (fun k=>by injection k with k;exact absurd k (by decide)) (by rw [drewN_heap'];exact h1) (by rw [drewN_heap'];exact h2)
end Go.Proofs.YtifapjammoahgaaGreatDoor.Rl
namespace Go.Proofs.YtifapjammoahgaaGreatDoor.Ru
open Go.RowKit Me
structure EnvO (W:World):Prop where
  f:EnvF W
  r:Rl.GlobR W
  k:Rl.Blks W
theorem EnvO.below {W W1:World} (h:EnvO W) (hb:Below W.heap.size W W1):EnvO W1 :=
  have k:=h.k.below hb
  ⟨h.f.below hb,h.r.below hb k.eq,k⟩
theorem fin_of_nm {u:Nat} (h:∀ b ∈ Rl.pText u,isNm b=true):Re.finF u=true:=by
  unfold Re.finF
  refine decide_eq_true ?_
  rcases Nat.lt_trichotomy (u % 9223372036854775808) 9218868437227405312 with k | k | k
  · exact k
  · exfalso
    have hm:(73:UInt8) ∈ Rl.pText u:=by
      rw [Rl.text_inf u k]
      split <;> decide
    exact absurd (h 73 hm) (by decide)
  · exfalso
    have hm:(78:UInt8) ∈ Rl.pText u:=by
      rw [Rl.text_nan u k]
      decide
    exact absurd (h 78 hm) (by decide)
theorem prF_some {l:List UInt8} {x:Nat} (h:prF l=some x):x < 18446744073709551616∧Rl.pText x=l:=by
  unfold prF at h
  split at h
  · rename_i k
    obtain ⟨h1,-,h3⟩:=k.choose_spec
    obtain rfl:=Option.some.inj h
    exact ⟨h1,h3⟩
  · cases h
theorem pr_row (l:List UInt8) (hl:∀ b ∈ l,isNm b=true) (hlen:l.length≤65536) (u:World) (he:EnvO u):PrAt prF u l:=by
  intro W hb
  have hW:=he.below hb
  by_cases h:∃ x,x < 18446744073709551616∧Re.finF x=true∧Rl.pText x=l
  · obtain ⟨x,hx,hf,rfl⟩:=h
    refine (parse_fin hx hf W hW.f).mono ?_
    rintro e w' ⟨rfl,hb'⟩
    exact ⟨Or.inl ⟨x,prF_text hx hf W hW.f,rfl⟩,hb'⟩
  · have hn:prF l=none:=by unfold prF;rw [dif_neg h]
    refine (Rl.Parse_every l (by omega) W hW.f.e.gl ⟨hW.f.e.er.syn,hW.f.e.er.rng⟩ hW.r (fun h25 W'=>Rl.read_some l h25 W')).mono ?_
    rintro e w' ⟨rfl | ⟨x,rfl,hx,ht⟩,hb'⟩
    · exact ⟨Or.inr ⟨hn,0,rfl⟩,hb'⟩
    · exact absurd ⟨x,hx,fin_of_nm (by rw [ht];exact hl),ht⟩ h
def OnQ (T:List UInt8) (B:Nat) (e:Ending) (W:World):Prop :=
  (∃ z a:Nat,z≠0∧a≤T.length∧e=.returned (.tuple #[rx 0 0 [] (.slice none 0 0) 0 0 0 (.slice none 0 0),.int .i64 (z:Int),.int .i64 (a:Int)])) ∨
  (∃ (t:RT) (v:Value),e=.returned (.tuple #[v,.int .i64 0,.int .i64 0])∧RV B W t v∧ckE t=0∧wrT t=T∧T.length≤65536∧∀ s ∈ nds t,szN s∧szI s)
theorem take_all (p:UInt8→Bool):∀ l:List UInt8,∀ b ∈ l.takeWhile p,p b=true
  | [],b,hb=>by cases hb
  | a::l,b,hb=>by
    rw [List.takeWhile_cons] at hb
    by_cases k:p a=true
    · rw [if_pos k] at hb
      rcases List.mem_cons.1 hb with rfl | hb
      · exact k
      · exact take_all p l b hb
    · rw [if_neg k] at hb
      cases hb
theorem rowF_nm (T:List UInt8) (z:St):∀ b ∈ rowF isNm T z,isNm b=true:=take_all _ _
theorem parse_all (T:List UInt8) (hT:T.length≤9223372036854775807) (w:World) (he:EnvO w) :
    Calls Tryz.prog 5 #[.string ⟨T.toArray⟩] w fun e w'=>OnQ T w.heap.size e w'∧Below w.heap.size w w':=by
  have hfw:T.length≤65536→(whlF prF T ⟨0,0,0⟩).2.e=0→wrT (whlF prF T ⟨0,0,0⟩).1=T∧∀ x ∈ nds (whlF prF T ⟨0,0,0⟩).1,szN x∧szI x:=fun h1 h2=>whole_fwd prF (fun l x h=>prF_some h) T h1 h2
  have hok:T.length≤65536→(whlF prF T ⟨0,0,0⟩).2.a≤T.length:=fun h1=>by
    have hm:=rul_ok (T:=T) prF 512 (Nat.le_refl _) ⟨0,0,0⟩ ⟨Nat.zero_le _,by decide,h1⟩ cf0
    have ha:=hm.ok.a
    unfold whlF
    dsimp only
    split
    · exact ha
    · unfold fl
      split
      · exact ha
      · exact ha
  have q:=parse_any prF (fun t=>(ckE t).toNat) T hT w he.f.e (fun h1 u hb z _=>pr_row _ (rowF_nm T z) (by have:=rowF_le isNm T z;have:=rst_le T z;omega) u (he.below hb)) (fun h1 h2=>ckAt_of _ w (fun s hs=>((hfw h1 h2).2 s hs).1) he.f.e.kd)
  refine q.mono ?_
  rintro e w' ⟨hq,hb⟩
  refine ⟨?_,hb⟩
  rcases hq with ⟨z,a,hz,rfl,h⟩ | ⟨h1,h2,h3,v,rfl,hv⟩
  · refine Or.inl ⟨z,a,hz,?_,rfl⟩
    rcases h with ⟨-,-,rfl⟩ | ⟨h1,-,rfl⟩ | ⟨-,-,-,rfl⟩
    · exact Nat.zero_le _
    · exact hok h1
    · exact Nat.zero_le _
  · obtain ⟨k1,k2⟩:=hfw h1 h2
    have h3':(ckE (whlF prF T ⟨0,0,0⟩).1).toNat=0:=h3
    have:=ckE_nn (whlF prF T ⟨0,0,0⟩).1
    exact Or.inr ⟨_,v,rfl,hv,by omega,k1,h1,k2⟩
end Go.Proofs.YtifapjammoahgaaGreatDoor.Ru
