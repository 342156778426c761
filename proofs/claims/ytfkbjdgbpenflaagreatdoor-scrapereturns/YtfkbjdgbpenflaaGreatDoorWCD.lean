/- THE DOOR of layer 13: snapshots, opened. Own work of the verifier. -/
import Derived.Test.YtfkbjdgbpenflaaGreatDoorWAN
import Derived.Test.YtfkbjdgbpenflaaGreatDoorRows
import Derived.Lib.SmallJoins
import Derived.Carry
import Derived.SizedLaws
import Derived.ProofKit
import Derived.OpenShut
import Derived.ChangeSlices
import Derived.Deep.SlicePairs
import Derived.Deep.Slices
import Derived.JoinedCond
import Derived.ChangeArms
set_option maxRecDepth 100000
namespace Go.Proofs.YtfkbjdgbpenflaaGreatDoor.Do
open Go.ChangeShapes Go.WideShapes Go.ChangeAt Go.RowKit Go.Joins
theorem laidOut:laidOutB Tryz.prog=true:=by kernel_rfl
theorem cellsC:Tryz.prog.cellsOf 79=2:=by kernel_rfl
theorem cellsInt:Tryz.prog.cellsOf 3=1:=by kernel_rfl
theorem cellsU64:Tryz.prog.cellsOf 23=1:=by kernel_rfl
theorem cellsI64:Tryz.prog.cellsOf 2=1:=by kernel_rfl
theorem cellsSC:Tryz.prog.cellsOf 42=1:=by kernel_rfl
theorem cellsS:Tryz.prog.cellsOf 9=1:=by kernel_rfl
theorem cellsLb:Tryz.prog.cellsOf 85=2:=by kernel_rfl
theorem cellsSL:Tryz.prog.cellsOf 39=1:=by kernel_rfl
theorem cellsD:Tryz.prog.cellsOf 41=4:=by kernel_rfl
theorem cellsBI:Tryz.prog.cellsOf 38=2:=by kernel_rfl
theorem cellsF:Tryz.prog.cellsOf 43=1:=by kernel_rfl
theorem cellsV:Tryz.prog.cellsOf 45=11:=by kernel_rfl
theorem cellsSV:Tryz.prog.cellsOf 22=1:=by kernel_rfl
theorem cellsSn:Tryz.prog.cellsOf 25=3:=by kernel_rfl
theorem bytesC:Tryz.prog.bytesOf 79=16:=by kernel_rfl
theorem typesSn:Tryz.prog.cellTypes Tryz.prog.depth 25=some [3,22,23]:=by kernel_rfl
theorem range_i64 {n:Int} (h:(Lit.int .i64 n).wf=true):-9223372036854775808≤n∧n < 9223372036854775808:=by
 have hx:-9223372036854775808≤n∧n≤9223372036854775807:=by simpa [Lit.wf,IntKind.min,IntKind.max,IntKind.signed,IntKind.bits] using h
 omega
theorem nat_u64 {n:Int} (h:(Lit.int .u64 n).wf=true):∃ k:Nat,n=(k:Int)∧k < 18446744073709551616:=by
 have hx:0≤n∧n≤18446744073709551615:=by simpa [Lit.wf,IntKind.min,IntKind.max,IntKind.signed,IntKind.bits] using h
 exact ⟨n.toNat,by omega,by omega⟩
def zV0:Vl:=⟨⟨0,[],[],[]⟩,0,[],0,0,0,0⟩
def strV (v:Value):List UInt8:=match v with | .string s=>s.data.toList | _=>[]
section
variable {H:Type} {enc:TypeId × Value→H}
theorem all_mem {l:List Nat} {B n:Nat} (h:l.all (·≤B)=true) (hn:n ∈ l):n≤B:=by
 have:=List.all_eq_true.1 h n hn
 simpa using this
theorem w_aggs (P:Program) (e:TypeId) (D:Nat→DataW H) (n i:Nat) (hi:i < n) (k:Nat) (hk:k ∈ (D i).weights P e):k ∈ DataW.weightsAll P e ((List.range n).map D):=by
 have key:∀ l:List Nat,i ∈ l→k ∈ DataW.weightsAll P e (l.map D):=fun l hl=>by
  induction l with
  | nil=>cases hl
  | cons x r ih =>
   rw [List.map_cons,DataW.weightsAll,List.mem_append]
   rcases List.mem_cons.1 hl with rfl | h
   ·exact Or.inl hk
   ·exact Or.inr (ih h)
 exact key _ (List.mem_range.2 hi)
theorem trod_f64 {P:Program} {w:World} {base:Nat} {spare:Nat→Bool} {held:Bool} {fuel:Nat} {t:TypeId} {cs:List Value} {x:DataW H × List MemPlace} (ht:P.underlying t=some (.float .f64)) (h:DataW.trod enc P w base spare held fuel t cs=some x):∃ b:Nat,cs=[.float .f64 b]∧b < 18446744073709551616:=by
 cases fuel with
 | zero=>simp [DataW.trod] at h
 | succ n =>
  unfold DataW.trod at h
  rw [ht] at h
  split at h <;> simp_all
  rename_i k k' b e
  subst e
  simpa [Lit.wf] using h.1.2
theorem open_counts {W:World} {fuel:Nat} {v:Value} {x:DataW H × List MemPlace} (h:DataW.trod enc Tryz.prog W 0 (fun _=>true) true fuel 42 [v]=some x) (hw:(x.1.weights Tryz.prog 42).all (·≤reachBytes)=true) :
  ∃ L,SN W v L∧Wc L∧L.length≤8796093022208:=by
 rcases Deep.open_slice_pairs Tryz.underlying42 Tryz.underlying79 cellsC rfl rfl cellsInt cellsU64 h with ⟨hcs,_⟩ | ⟨a,len,cap,m,n,V0,V1,D0,D1,P0,P1,hcs,_,hl,hm,hmm,rfl,hx⟩
 ·simp at hcs
  subst hcs
  exact ⟨[],Or.inl ⟨rfl,rfl⟩,(fun c hc=>by cases hc),Nat.zero_le _⟩
 ·simp at hcs
  subst hcs
  simp only [if_true] at hmm
  subst hmm
  have key:∀ i,i < m→∃ (z:Int) (y:Nat),V0 i=.int .i64 z∧V1 i=.int .u64 (y:Int)∧-9223372036854775808≤z∧z < 9223372036854775808∧y < 18446744073709551616:=fun i hi=>by
   obtain ⟨_,_,h0,h1⟩:=hx i hi
   obtain ⟨z,e0,_,w0⟩:=DataW.trod_int Tryz.underlying3 h0
   obtain ⟨y,e1,_,w1⟩:=DataW.trod_int Tryz.underlying23 h1
   simp at e0 e1
   obtain ⟨k,rfl,hk⟩:=nat_u64 w1
   exact ⟨z,k,e0,e1,(range_i64 w0).1,(range_i64 w0).2,hk⟩
  have hLlen:((List.range len).map fun i=>((intOf (V0 i),(intOf (V1 i)).toNat):Cn)).length=len:=by simp
  have hget:∀ i (hi:i < len),((List.range len).map fun i=>((intOf (V0 i),(intOf (V1 i)).toNat):Cn))[i]'(by rw [hLlen];exact hi)=(intOf (V0 i),(intOf (V1 i)).toNat):=fun i hi=>by simp
  generalize hL:((List.range len).map fun i=>((intOf (V0 i),(intOf (V1 i)).toNat):Cn))=L at *
  have hcell:RowA W a L:=fun j u hu=>by
   have hj:j < (fl L).length:=by
    rcases Nat.lt_or_ge j (fl L).length with c | c
    ·exact c
    ·rw [List.getElem?_eq_none c] at hu;cases hu
   rw [fl_length,hLlen] at hj
   have hi:j / 2 < len:=by omega
   obtain ⟨g1,g2⟩:=fl_get L (j / 2) (by omega)
   obtain ⟨c0,c1,_,_⟩:=hx (j / 2) (by omega)
   obtain ⟨z,y,e0,e1,_⟩:=key (j / 2) (by omega)
   rw [hget _ hi,e0,e1] at g1 g2
   rw [e0] at c0
   rw [e1] at c1
   rcases Nat.mod_two_eq_zero_or_one j with e | e
   ·rw [show j / 2*2=j by omega] at g1 c0
    rw [g1] at hu
    cases hu
    exact c0
   ·rw [show j / 2*2+1=j by omega] at g2 c1
    rw [g2] at hu
    cases hu
    simpa [intOf] using c1
  refine ⟨L,Or.inr ⟨a,m,by rw [hLlen],by rw [hLlen];exact hl,hcell⟩,fun c hc=>?_,?_⟩
  ·rw [← hL] at hc
   obtain ⟨i,hi,rfl⟩:=List.mem_map.1 hc
   obtain ⟨z,y,e0,e1,r0,r1,r2⟩:=key i (by have:=List.mem_range.1 hi;omega)
   simp only [e0,e1,intOf]
   exact ⟨r0,r1,by simpa using r2⟩
  ·rw [hLlen]
   simp only [DataW.weights,Tryz.underlying42,bytesC,List.all_cons,Bool.and_eq_true,decide_eq_true_eq,List.length_map,List.length_range] at hw
   have:=hw.1
   unfold reachBytes at this
   omega
theorem open_labels {W:World} {fuel:Nat} {v:Value} {x:DataW H × List MemPlace} (h:DataW.trod enc Tryz.prog W 0 (fun _=>true) true fuel 39 [v]=some x) (hw:(x.1.weights Tryz.prog 39).all (·≤reachBytes)=true) :
  ∃ L,SLb W v L∧(∀ a ∈ L,a.1.length≤140737488351232∧a.2.length≤140737488351232):=by
 rcases Deep.open_slice_pairs Tryz.underlying39 Tryz.underlying85 cellsLb rfl rfl cellsS cellsS h with ⟨hcs,_⟩ | ⟨a,len,cap,m,n,V0,V1,D0,D1,P0,P1,hcs,_,hl,hm,hmm,rfl,hx⟩
 ·simp at hcs
  subst hcs
  exact ⟨[],Or.inl ⟨rfl,rfl⟩,fun a ha=>by cases ha⟩
 ·simp at hcs
  subst hcs
  simp only [if_true] at hmm
  subst hmm
  have hcap:m≤9223372036854775807:=by unfold maxLen at hm;omega
  have key:∀ i,i < m→∃ (s t:List UInt8),V0 i=.string ⟨s.toArray⟩∧V1 i=.string ⟨t.toArray⟩∧D0 i=.lit (.string s)∧D1 i=.lit (.string t):=fun i hi=>by
   obtain ⟨_,_,h0,h1⟩:=hx i hi
   obtain ⟨s,e0,f0,_⟩:=DataW.trod_string Tryz.underlying9 h0
   obtain ⟨t,e1,f1,_⟩:=DataW.trod_string Tryz.underlying9 h1
   simp at e0 e1
   exact ⟨s.data.toList,t.data.toList,e0,e1,(Prod.mk.inj f0).1,(Prod.mk.inj f1).1⟩
  have hLlen:((List.range len).map fun i=>((strV (V0 i),strV (V1 i)):La.Lb)).length=len:=by simp
  have hbnd:∀ c ∈ ((List.range len).map fun i=>((strV (V0 i),strV (V1 i)):La.Lb)),c.1.length≤140737488351232∧c.2.length≤140737488351232:=fun c hc=>by
   obtain ⟨i,hi,rfl⟩:=List.mem_map.1 hc
   have hi':=List.mem_range.1 hi
   obtain ⟨s,t,e0,e1,e2,e3⟩:=key i (by omega)
   simp only [DataW.weights,Tryz.underlying39] at hw
   have hin:∀ k,k ∈ (DataW.agg [D0 i,D1 i]:DataW H).weights Tryz.prog 85→k≤reachBytes:=fun k hk=>all_mem hw (List.mem_cons_of_mem _ (List.mem_append_left _ (w_aggs Tryz.prog 85 (fun i=>DataW.agg [D0 i,D1 i]) len i hi' k hk)))
   rw [e2,e3] at hin
   simp only [DataW.weights,Tryz.underlying85,DataW.weightsEach,List.map_cons,List.map_nil] at hin
   unfold reachBytes at hin
   simp only [e0,e1]
   have es:s.length≤140737488351232:=hin s.length (by simp)
   have et:t.length≤140737488351232:=hin t.length (by simp)
   exact ⟨es,et⟩
  refine ⟨_,?_,hbnd⟩
  rcases Nat.eq_zero_or_pos len with k0 | k0
  ·subst k0
   exact Or.inr (Or.inr ⟨a,m,rfl,hcap,rfl⟩)
  ·obtain ⟨b,off,spot⟩:=a
   have hspot:spot=none:=by
    have:=World.cell?_spot (hx 0 (by omega)).1
    simpa [Addr.add] using this
   subst hspot
   refine Or.inr (Or.inl ⟨b,off,m,by rw [hLlen],by rw [hLlen];exact hl,hcap,fun i hi=>?_⟩)
   rw [hLlen] at hi
   obtain ⟨c0,c1,_,_⟩:=hx i (by omega)
   obtain ⟨s,t,e0,e1,_⟩:=key i (by omega)
   rw [Addr.add_lit] at c0 c1
   simp only [List.getElem_map,List.getElem_range]
   rw [e0] at c0 ⊢
   rw [e1] at c1 ⊢
   exact ⟨c0,by rw [← Nat.add_assoc] at c1;exact c1⟩
theorem open_value {W:World} {fuel:Nat} {cs:List Value} {x:DataW H × List MemPlace} (h:DataW.trod enc Tryz.prog W 0 (fun _=>true) true fuel 45 cs=some x) (hw:(x.1.weights Tryz.prog 45).all (·≤reachBytes)=true) :
  ∃ (y:Vl) (lv cv:Value),cs=(vc y lv cv).toList∧SLb W lv y.d.labels∧SN W cv y.cs∧VW y:=by
 obtain ⟨xs,n,_,hx,hl,hlen,hfs⟩:=DataW.trod_struct Tryz.underlying45 h
 rw [cellsV] at hl
 match cs,hl,xs,hlen with
 | [c0,c1,c2,c3,c4,c5,c6,c7,c8,c9,c10],_,[y0,y1,y2,y3,y4,y5,y6],_ =>
  have g0:=hfs 0 _ rfl
  have g1:=hfs 1 _ rfl
  have g2:=hfs 2 _ rfl
  have g3:=hfs 3 _ rfl
  have g4:=hfs 4 _ rfl
  have g5:=hfs 5 _ rfl
  have g6:=hfs 6 _ rfl
  simp [cellsD,cellsBI,cellsSC,cellsU64,cellsF] at g0 g1 g2 g3 g4 g5 g6
  have hxx:=Prod.ext_iff.1 hx
  rw [hxx.1] at hw
  simp only [List.map_cons,List.map_nil,DataW.weights,Tryz.underlying45,DataW.weightsEach,List.all_append,Bool.and_eq_true] at hw
  obtain ⟨k0,k1,k2,k3,k4,k5,k6,_⟩:=hw
  obtain ⟨zs,n0,_,hz,_,hzl,hzf⟩:=DataW.trod_struct Tryz.underlying41 g0
  match zs,hzl with
  | [z0,z1,z2,z3],_ =>
   have f0:=hzf 0 _ rfl
   have f1:=hzf 1 _ rfl
   have f2:=hzf 2 _ rfl
   have f3:=hzf 3 _ rfl
   simp [cellsInt,cellsS,cellsSL] at f0 f1 f2 f3
   have hzz:=Prod.ext_iff.1 hz
   rw [hzz.1] at k0
   simp only [List.map_cons,List.map_nil,DataW.weights,Tryz.underlying41,DataW.weightsEach,List.all_append,Bool.and_eq_true] at k0
   obtain ⟨_,q1,q2,q3,_⟩:=k0
   obtain ⟨kd,e0,_,_⟩:=DataW.trod_int Tryz.underlying3 f0
   obtain ⟨s1,e1,r1,_⟩:=DataW.trod_string Tryz.underlying9 f1
   obtain ⟨s2,e2,r2,_⟩:=DataW.trod_string Tryz.underlying9 f2
   obtain ⟨L,sL,bL⟩:=open_labels f3 q3
   obtain ⟨us,n1,_,_,_,hul,huf⟩:=DataW.trod_struct Tryz.underlying38 g1
   match us,hul with
   | [u0,u1],_ =>
    have t0:=huf 0 _ rfl
    have t1:=huf 1 _ rfl
    simp [cellsI64,cellsU64] at t0 t1
    obtain ⟨hi,e4,_,w4⟩:=DataW.trod_int Tryz.underlying2 t0
    obtain ⟨lo',e5,_,w5⟩:=DataW.trod_int Tryz.underlying23 t1
    obtain ⟨C,sC,wC,lC⟩:=open_counts g2 k2
    obtain ⟨nn,e7,_,w7⟩:=DataW.trod_int Tryz.underlying23 g3
    obtain ⟨a8,e8,w8⟩:=trod_f64 Tryz.underlying43 g4
    obtain ⟨a9,e9,w9⟩:=trod_f64 Tryz.underlying43 g5
    obtain ⟨a10,e10,w10⟩:=trod_f64 Tryz.underlying43 g6
    simp at e0 e1 e2 e4 e5 e7 e8 e9 e10
    subst e0 e1 e2 e4 e5 e7 e8 e9 e10
    obtain ⟨l5,rfl,hl5⟩:=nat_u64 w5
    obtain ⟨n7,rfl,hn7⟩:=nat_u64 w7
    have hwf:Wf hi (l5:Int):=⟨(range_i64 w4).1,by have:=(range_i64 w4).2;omega,by omega,by omega⟩
    rw [r1] at q1
    rw [r2] at q2
    unfold reachBytes at q1 q2
    simp [DataW.weights] at q1 q2
    refine ⟨⟨⟨kd,s1.data.toList,s2.data.toList,L⟩,val hi (l5:Int),C,n7,a8,a9,a10⟩,c3,c6,?_,sL,sC,?_⟩
    ·show _=[_,_,_,_,Value.int .i64 (hiOf (val hi (l5:Int))),Value.int .u64 (loOf (val hi (l5:Int))),_,_,_,_,_]
     rw [hiOf_val hwf,loOf_val hwf]
    ·have hr:=range_i64 w4
     refine ⟨⟨?_,?_⟩,wC,lC,hn7,w8,w9,w10,⟨?_,?_,fun a ha=>?_⟩⟩
     ·show _≤val hi (l5:Int)
      unfold val
      omega
     ·show val hi (l5:Int) < _
      unfold val
      omega
     ·show s1.data.toList.length≤_
      have e:s1.data.toList.length=s1.size:=rfl
      omega
     ·show s2.data.toList.length≤_
      have e:s2.data.toList.length=s2.size:=rfl
      omega
     ·have:=bL a ha
      omega
theorem open_values {W:World} {fuel:Nat} {v:Value} {x:DataW H × List MemPlace} (hsp:∀ a len cap,v=.slice (some a) len cap→a.spot=none) (h:DataW.trod enc Tryz.prog W 0 (fun _=>true) true fuel 22 [v]=some x) (hw:(x.1.weights Tryz.prog 22).all (·≤reachBytes)=true) :
  ∃ L,SV W v L∧∀ y ∈ L,VW y:=by
 rcases Deep.open_slice Tryz.underlying22 h with ⟨hcs,_⟩ | ⟨a,len,cap,m,n,D,Pl,hcs,_,hl,hm,hmm,rfl,hx⟩
 ·simp at hcs
  subst hcs
  exact ⟨[],Or.inl ⟨rfl,rfl⟩,fun y hy=>by cases hy⟩
 ·simp at hcs
  subst hcs
  simp only [if_true] at hmm
  subst hmm
  have hspot:=hsp _ _ _ rfl
  obtain ⟨b,off,spot⟩:=a
  simp at hspot
  subst hspot
  simp only [DataW.weights,Tryz.underlying22] at hw
  have each:∀ i,i < len→∃ y:Vl,(∃ lv cv,C11 W b (off+i*11) y lv cv∧SLb W lv y.d.labels∧SN W cv y.cs)∧VW y:=fun i hi=>by
   obtain ⟨cs',h1,h2⟩:=hx i (by omega)
   obtain ⟨y,lv,cv,rfl,k1,k2,k3⟩:=open_value h2 (List.all_eq_true.2 fun k hk=>List.all_eq_true.1 hw k (List.mem_cons_of_mem _ (List.mem_append_left _ (w_aggs Tryz.prog 45 D len i hi k hk))))
   obtain ⟨_,_,h3⟩:=World.cells?_some h1
   rw [cellsV] at h3
   have hc:∀ j,j < 11→W.cell? ⟨b,off+i*11+j,none⟩=(vc y lv cv).toList[j]?:=fun j hj=>by
    have:=h3 j hj
    rw [Addr.add_lit,Addr.add_lit] at this
    exact this
   exact ⟨y,⟨lv,cv,⟨hc 0 (by decide),hc 1 (by decide),hc 2 (by decide),hc 3 (by decide),hc 4 (by decide),hc 5 (by decide),hc 6 (by decide),hc 7 (by decide),hc 8 (by decide),hc 9 (by decide),hc 10 (by decide)⟩,k1,k2⟩,k3⟩
  obtain ⟨f,hf⟩:∃ f:Nat→Vl,∀ i,i < len→(∃ lv cv,C11 W b (off+i*11) (f i) lv cv∧SLb W lv (f i).d.labels∧SN W cv (f i).cs)∧VW (f i):=by
   refine ⟨fun i=>if hi:i < len then Classical.choose (each i hi) else zV0,fun i hi=>?_⟩
   simp only [hi,dif_pos]
   exact Classical.choose_spec (each i hi)
  have hlen:((List.range len).map f).length=len:=by simp
  refine ⟨(List.range len).map f,Or.inr ⟨b,off,m,by rw [hlen],by rw [hlen];exact hl,by unfold maxLen at hm;omega,fun i hi=>?_⟩,fun y hy=>?_⟩
  ·rw [hlen] at hi
   simp only [List.getElem_map,List.getElem_range]
   exact (hf i hi).1
  ·obtain ⟨i,hi,rfl⟩:=List.mem_map.1 hy
   exact (hf i (List.mem_range.1 hi)).2
theorem spot_field {W:World} {base:Nat} {t:TypeId} {fs:Array Field} {cs:Array Value} {ts:List TypeId} (hs:Tryz.prog.underlying t=some (.struct fs)) (hv:Value.okWide Tryz.prog W .any base t (.agg cs)) (hts:Tryz.prog.cellTypes Tryz.prog.depth t=some ts)
  {i:Nat} {u e:TypeId} (hu:ts[i % ts.length]? =some u) (hue:Tryz.prog.underlying u=some (.slice e)) {a:Addr} {len cap:Nat} (hc:cs[i]? =some (.slice (some a) len cap)):a.spot=none:=by
 simp only [Value.okWide,hs] at hv
 obtain ⟨cs',h1,h2,ts',h3,h4,h5⟩:=hv
 cases h1
 rw [hts] at h3
 cases h3
 obtain ⟨u',h6,h7⟩:=h5 i _ hc
 rw [hu] at h6
 cases h6
 simp only [Cell.okWide,hue,Cell.ok] at h7
 exact h7.2.2.2.1
theorem open_snapc {W:World} {fuel:Nat} {cs:List Value} {x:DataW H × List MemPlace} (hsp:∀ a len cap,cs[1]? =some (.slice (some a) len cap)→a.spot=none) (h:DataW.trod enc Tryz.prog W 0 (fun _=>true) true fuel 25 cs=some x) (hw:(x.1.weights Tryz.prog 25).all (·≤reachBytes)=true) :
  ∃ (s:Sn) (u:Value),cs=[.int .i64 s.p,u,.int .u64 (s.r:Int)]∧SV W u s.vs∧SnW s:=by
 obtain ⟨xs,n,_,hx,hl,hlen,hfs⟩:=DataW.trod_struct Tryz.underlying25 h
 rw [cellsSn] at hl
 match cs,hl,xs,hlen with
 | [c0,c1,c2],_,[y0,y1,y2],_ =>
  have g0:=hfs 0 _ rfl
  have g1:=hfs 1 _ rfl
  have g2:=hfs 2 _ rfl
  simp [cellsInt,cellsSV,cellsU64] at g0 g1 g2
  have hxx:=Prod.ext_iff.1 hx
  rw [hxx.1] at hw
  simp only [List.map_cons,List.map_nil,DataW.weights,Tryz.underlying25,DataW.weightsEach,List.all_append,Bool.and_eq_true] at hw
  obtain ⟨k0,k1,k2,_⟩:=hw
  obtain ⟨p,e0,_,_⟩:=DataW.trod_int Tryz.underlying3 g0
  obtain ⟨r,e2,_,w2⟩:=DataW.trod_int Tryz.underlying23 g2
  obtain ⟨L,sL,wL⟩:=open_values (fun a len cap e=>hsp a len cap (by rw [e];rfl)) g1 k1
  simp at e0 e2
  subst e0 e2
  obtain ⟨r,rfl,hr⟩:=nat_u64 w2
  exact ⟨⟨p,L,r⟩,c1,rfl,sL,⟨wL,hr⟩⟩
theorem open_snap {W:World} {base:Nat} {v:Value} {d:DataW H} {pl:List MemPlace} (hv:Value.okWide Tryz.prog W .any base 25 v) (h:DataW.Trod enc Tryz.prog W 0 (fun _=>true) true 25 v d pl) (hw:(d.weights Tryz.prog 25).all (·≤reachBytes)=true) :
  ∃ s:Sn,SnAt W s v∧SnW s:=by
 obtain ⟨cs,rfl,hsz⟩:=okWide_struct Tryz.underlying25 hv
 obtain ⟨fuel,hf⟩:=h
 obtain ⟨s,u,e,h1,h2⟩:=open_snapc (fun a len cap e=>spot_field Tryz.underlying25 hv typesSn (i:=1) rfl Tryz.underlying22 (by simpa [Value.cells] using e)) hf hw
 refine ⟨s,⟨u,?_,h1⟩,h2⟩
 simp [Value.cells] at e
 rw [← Array.toArray_toList (xs:=cs),e]
end
end Go.Proofs.YtfkbjdgbpenflaaGreatDoor.Do
