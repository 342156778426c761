/- RULES: the law's of: a rule in memory of its own. Own work of the verifier. -/
import Derived.Test.YtibahfopmjiffaaGreatDoorSBH
import Derived.OwnWalk
import Derived.Laws.OwnMore
import Derived.Test.YtibahfopmjiffaaGreatDoorSBL
import Derived.Lib.SmallJoins
import Derived.Carry
import Derived.SizedLaws
import Derived.ProofKit
import Derived.OpenShut
import Derived.ChangeSlices
import Derived.Deep.SlicePairs
import Derived.Deep.Slices
import Derived.JoinedCond
import Derived.ChangeArms
namespace Go.Proofs.YtibahfopmjiffaaGreatDoor.Ru
open Go.RowKit Me
mutual
def RVh (W:World):RT→Value→Prop
  | .mk k x nm lb w n d ar,v=>∃ la lc ao b o cap,v=rx k x nm (.slice la lb.length lc) w n d (.slice ao ar.length cap)∧LbV 0 W (.slice la lb.length lc) lb∧(la=none→lc=0)∧(ar≠[]→ao=some ⟨b,o,none⟩)∧ar.length≤cap∧cap≤9223372036854775807∧RVhs W b o ar
def RVhs (W:World) (b:Nat):Nat→List RT→Prop
  | _,[]=>True
  | o,t::ar=>(∃ u:Array Value,RVh W t (.agg u)∧u.size=8∧∀ j (h:j < u.size),W.cell? ⟨b,o+j,none⟩=some u[j])∧RVhs W b (o+8) ar
end
theorem RVhs.rv {W:World} {b:Nat}:∀ (ar:List RT) (o:Nat),(∀ a ∈ ar,∀ v,RVh W a v→RV 0 W a v)→RVhs W b o ar→RVs 0 W b o ar
  | [],_,_,_=>by unfold RVs;trivial
  | t::ar,o,h,hs=>by
    unfold RVhs at hs
    unfold RVs
    obtain ⟨⟨u,h1,h2,h3⟩,h4⟩:=hs
    exact ⟨⟨u,h t List.mem_cons_self _ h1,h2,h3⟩,RVhs.rv ar (o+8) (fun a ha=>h a (List.mem_cons_of_mem _ ha)) h4⟩
theorem RVh.rv {W:World}:∀ (t:RT) (v:Value),RVh W t v→RV 0 W t v:=by
  refine RT.ind ?_
  intro k x nm lb w n d ar ih v h
  unfold RVh at h
  unfold RV
  obtain ⟨la,lc,ao,b,o,cap,rfl,h1,-,h2,h3,h4,h5⟩:=h
  exact ⟨_,ao,b,o,cap,rfl,h1,fun e=>⟨h2 e,Nat.zero_le _⟩,h3,h4,RVhs.rv ar o (fun a ha v hv=>ih a ha v hv) h5⟩
theorem RVhs.below {W W1:World} {b:Nat} (hb:Below W.heap.size W W1):∀ (ar:List RT) (o:Nat),(∀ a ∈ ar,∀ v,RVh W a v→RVh W1 a v)→RVhs W b o ar→RVhs W1 b o ar
  | [],_,_,_=>by unfold RVhs;trivial
  | t::ar,o,h,hs=>by
    unfold RVhs at hs ⊢
    obtain ⟨⟨u,h1,h2,h3⟩,h4⟩:=hs
    exact ⟨⟨u,h t List.mem_cons_self _ h1,h2,fun j hj=>cellH' hb (h3 j hj)⟩,RVhs.below hb ar (o+8) (fun a ha=>h a (List.mem_cons_of_mem _ ha)) h4⟩
theorem RVh.below {W W1:World} (hb:Below W.heap.size W W1):∀ (t:RT) (v:Value),RVh W t v→RVh W1 t v:=by
  refine RT.ind ?_
  intro k x nm lb w n d ar ih v h
  unfold RVh at h ⊢
  obtain ⟨la,lc,ao,b,o,cap,rfl,h1,h0,h2,h3,h4,h5⟩:=h
  exact ⟨la,lc,ao,b,o,cap,rfl,h1.below hb,h0,h2,h3,h4,RVhs.below hb ar o (fun a ha v hv=>ih a ha v hv) h5⟩
theorem RVhs.at_ {W:World} {b:Nat}:∀ {ar:List RT} {o:Nat},RVhs W b o ar→∀ i (hi:i < ar.length),∃ u:Array Value,RVh W ar[i] (.agg u)∧u.size=8∧∀ j (h:j < u.size),W.cell? ⟨b,o+i*8+j,none⟩=some u[j]
  | [],_,_,i,hi=>by simp at hi
  | t::ar,o,h,i,hi=>by
    unfold RVhs at h
    obtain ⟨⟨u,h1,h2,h3⟩,h4⟩:=h
    cases i with
    | zero=>exact ⟨u,h1,h2,fun j hj=>by rw [Nat.zero_mul,Nat.add_zero];exact h3 j hj⟩
    | succ i =>
      obtain ⟨u',k1,k2,k3⟩:=RVhs.at_ h4 i (by simpa using hi)
      exact ⟨u',k1,k2,fun j hj=>by rw [show o+(i+1)*8+j=o+8+i*8+j by omega];exact k3 j hj⟩
theorem flL_one (L:List La.Lb):∀ u ∈ La.flL L,u.oneCell'=true:=by
  induction L with
  | nil=>intro u hu;cases hu
  | cons c L ih =>
    intro u hu
    simp only [La.flL,List.mem_cons] at hu
    rcases hu with rfl | rfl | h
    · rfl
    · rfl
    · exact ih u h
theorem rowL_cells {w:World} {b o:Nat} {L:List La.Lb} (h:La.RowL w b o L) (j:Nat) (u:Value) (hu:(La.flL L)[j]? =some u):w.cell? ((⟨b,o,none⟩:Addr).add j)=some u:=by
  have hj:j < (La.flL L).length:=by
    rcases Nat.lt_or_ge j (La.flL L).length with c | c
    · exact c
    · rw [List.getElem?_eq_none c] at hu;cases hu
  rw [La.flL_length] at hj
  have hi:j / 2 < L.length:=by omega
  obtain ⟨g1,g2⟩:=La.flL_get L (j / 2) hi
  obtain ⟨h1,h2⟩:=h (j / 2) hi
  rw [Addr.add_lit]
  rcases Nat.mod_two_eq_zero_or_one j with e | e
  · rw [show j / 2*2=j by omega] at g1 h1
    rw [g1] at hu
    cases hu
    exact h1
  · rw [show j / 2*2+1=j by omega] at g2
    rw [show o+j / 2*2+1=o+j by omega] at h2
    rw [g2] at hu
    cases hu
    exact h2
theorem infoRule:(Tryz.prog.info? 26).map (fun i=>(i.zero,i.size,i.bytes))=some (some (.agg (rc 0 0 [] (.slice none 0 0) 0 0 0 (.slice none 0 0))),8,104):=by kernel_rfl
theorem bel_gr {B g:Nat} {a b:World} (h:a.grownBy b (some g)) (hB:B≤g) (hs:B≤a.heap.size):Below B a b:=⟨h.os,h.tape,h.output,h.size,fun k hk=>h.block k (by omega) (by intro e;cases e;omega)⟩
theorem ex_gr {g:Nat} {a b:World} (h:a.grownBy b (some g)):La.Ex g a b:=⟨h.os,h.tape,h.output,h.size,fun k hk hn=>h.block k hk (by intro e;cases e;exact hn rfl)⟩
theorem bel_g0 {a b:World} (h:a.grownBy b none):Below a.heap.size a b:=⟨h.os,h.tape,h.output,h.size,fun k hk=>h.block k hk (by simp)⟩
structure OfI (w:World) (c:Array Value) (ln n ga:Nat) (ar:List RT) (i:Nat) (W:World):Prop where
  b:Below w.heap.size w W
  g1:W.heap[w.heap.size]? =some (.cells c 26)
  g2:Z8 (w.heap.size+1) W
  lr:W.ownsRow (w.heap.size+2) 98 2 (.slice (some ⟨w.heap.size+2,0,none⟩) 0 (ln+2)) 0 []
  ro:∃ xs:List Value,xs.length=i*8∧W.ownsRow (w.heap.size+2) 26 8 (.slice (some ⟨ga,0,none⟩) i (n+2)) i xs∧∀ j (h:j < ar.length),j < i→∃ u:Array Value,u.size=8∧(∀ q (k:q < u.size),xs[j*8+q]? =some u[q])∧RV (ga+1) W ar[j] (.agg u)
  gs:w.heap.size+3≤ga
  sz:ga+1≤W.heap.size
theorem OfI.below {w:World} {c:Array Value} {ln n ga:Nat} {ar:List RT} {i:Nat} {W W1:World} (h:OfI w c ln n ga ar i W) (hb:Below W.heap.size W W1):OfI w c ln n ga ar i W1:=by
  obtain ⟨xs,h1,h2,h3⟩:=h.ro
  exact ⟨bt h.b hb,(hb.block _ (Array.getElem?_eq_some_iff.1 h.g1).1).trans h.g1,h.g2.below hb,own_belG h.lr hb,⟨xs,h1,own_belG h2 hb,fun j hj hi=>by
    obtain ⟨u,k1,k2,k3⟩:=h3 j hj hi
    exact ⟨u,k1,k2,k3.below hb⟩⟩,h.gs,by have:=h.sz;have:=hb.size;omega⟩
theorem OfI.push {w:World} {c:Array Value} {ln n ga:Nat} {ar:List RT} {i:Nat} {W W1:World} {xs:List Value} {u:Array Value} (h:OfI w c ln n ga ar i W) (hi:i < ar.length) (hx:xs.length=i*8) (h0:W.ownsRow (w.heap.size+2) 26 8 (.slice (some ⟨ga,0,none⟩) i (n+2)) i xs)
    (h3:∀ j (h:j < ar.length),j < i→∃ u:Array Value,u.size=8∧(∀ q (k:q < u.size),xs[j*8+q]? =some u[q])∧RV (ga+1) W ar[j] (.agg u))
    (hu:u.size=8) (hv:RV (ga+1) W ar[i] (.agg u)) (ho:W1.ownsRow (w.heap.size+2) 26 8 (.slice (some ⟨ga,0,none⟩) (i+1) (n+2)) (i+1) (xs++u.toList)) (hg:W.grownBy W1 (some ga)):OfI w c ln n ga ar (i+1) W1:=by
  have hx8:=ex_gr hg
  have hgs:=h.gs
  have h8:u.toList.length=8:=by rw [Array.length_toList,hu]
  have hxl:(xs++u.toList).length=(i+1)*8:=by rw [List.length_append,hx,h8];omega
  refine ⟨h.b.trans (bel_gr hg (by omega) (by have:=h.sz;omega)),(hg.block _ (Array.getElem?_eq_some_iff.1 h.g1).1 (by intro e;have:=Option.some.inj e;omega)).trans h.g1,(hg.block _ h.g2.lt (by intro e;have:=Option.some.inj e;omega)).trans h.g2,World.ownsRow.kept h.lr hg (own_apart h.lr h0 (by decide)),⟨xs++u.toList,hxl,ho,fun j hj hji=>?_⟩,h.gs,by have:=h.sz;have:=hg.size;omega⟩
  by_cases e:j < i
  · obtain ⟨u',k1,k2,k3⟩:=h3 j hj e
    exact ⟨u',k1,fun q k=>by rw [List.getElem?_append_left (by rw [hx];omega)];exact k2 q k,k3.ex hx8 (by omega)⟩
  · obtain rfl:j=i:=by omega
    exact ⟨u,hu,fun q k=>by
      rw [List.getElem?_append_right (by rw [hx];omega),hx,show j*8+q - j*8=q by omega,Array.getElem?_toList]
      exact Array.getElem?_eq_getElem k,hv.ex hx8 (by omega)⟩
theorem rvs_of {B b:Nat} {W:World}:∀ (ar:List RT) (o:Nat),(∀ j (h:j < ar.length),∃ u:Array Value,u.size=8∧(∀ q (k:q < u.size),W.cell? ⟨b,o+j*8+q,none⟩=some u[q])∧RV B W ar[j] (.agg u))→RVs B W b o ar
  | [],_,_=>by unfold RVs;trivial
  | t::ar,o,h=>by
    unfold RVs
    obtain ⟨u,h1,h2,h3⟩:=h 0 (by simp)
    refine ⟨⟨u,h3,h1,fun j hj=>by have:=h2 j hj;rw [Nat.zero_mul,Nat.add_zero] at this;exact this⟩,rvs_of ar (o+8) fun j hj=>?_⟩
    obtain ⟨u',k1,k2,k3⟩:=h (j+1) (by simpa using hj)
    exact ⟨u',k1,fun q k=>by rw [show o+8+j*8+q=o+(j+1)*8+q by omega];exact k2 q k,k3⟩
theorem own_cellq {W:World} {B n cap g:Nat} {e:TypeId} {xs:List Value} {s:Nat} (h:W.ownsRow B e s (.slice (some ⟨g,0,none⟩) n cap) n xs) (j:Nat) (u:Value) (hu:xs[j]? =some u):W.cell? ⟨g,j,none⟩=some u:=by
  have hj:j < xs.length:=by
    rcases Nat.lt_or_ge j xs.length with c | c
    · exact c
    · rw [List.getElem?_eq_none c] at hu;cases hu
  rcases h.2 with ⟨k,_⟩ | ⟨g',cap',cur,hv,hg,hh,h3,h4,h5,h6⟩
  · cases k
  · cases hv
    rw [← h6,List.getElem?_take] at hu
    split at hu
    · simp only [World.cell?,hh]
      rw [Array.getElem?_toList] at hu
      exact hu
    · cases hu
def OfQ (t:RT) (w:World) (e:Ending) (W:World):Prop:=∃ v,e=.returned v∧RV w.heap.size W t v∧Below w.heap.size w W
def szO:RT→Prop
  | .mk _ _ _ lb _ _ _ ar=>lb.length≤32768∧ar.length≤32768
end Go.Proofs.YtibahfopmjiffaaGreatDoor.Ru
/- RULES: the law's of: THE WALK. Own work of the verifier. -/
set_option maxRecDepth 100000
set_option maxHeartbeats 8000000
namespace Go.Proofs.YtibahfopmjiffaaGreatDoor.Ru
open Go.RowKit Me
theorem of_end {w wr w8:World} {c:Array Value} {ga:Nat} (k:Int) (x:Nat) (nm:List UInt8) (lb:List La.Lb) (wi n d:Int) (ar:List RT) (HI:OfI w c lb.length ar.length ga ar ar.length wr)
    (hown:La.OwnL (w.heap.size+2) (.slice (some ⟨w.heap.size+2,0,none⟩) lb.length (lb.length+2)) lb w8) (hgr:wr.grownBy w8 (some (w.heap.size+2))) (ha:ar.length≤32768) :
    OfQ (.mk k x nm lb wi n d ar) w (.returned (rx k x nm (.slice (some ⟨w.heap.size+2,0,none⟩) lb.length (lb.length+2)) wi n d (.slice (some ⟨ga,0,none⟩) ar.length (ar.length+2)))) (put8 ((w8.setCell ⟨w.heap.size,3,none⟩ (.slice (some ⟨w.heap.size+2,0,none⟩) lb.length (lb.length+2))).setCell ⟨w.heap.size,7,none⟩ (.slice (some ⟨ga,0,none⟩) ar.length (ar.length+2))) (w.heap.size+1) (.int .i64 k) (.float .f64 x) (.string ⟨nm.toArray⟩) (.slice (some ⟨w.heap.size+2,0,none⟩) lb.length (lb.length+2)) (.int .i64 wi) (.int .i64 n) (.int .i64 d) (.slice (some ⟨ga,0,none⟩) ar.length (ar.length+2)))∧(put8 ((w8.setCell ⟨w.heap.size,3,none⟩ (.slice (some ⟨w.heap.size+2,0,none⟩) lb.length (lb.length+2))).setCell ⟨w.heap.size,7,none⟩ (.slice (some ⟨ga,0,none⟩) ar.length (ar.length+2))) (w.heap.size+1) (.int .i64 k) (.float .f64 x) (.string ⟨nm.toArray⟩) (.slice (some ⟨w.heap.size+2,0,none⟩) lb.length (lb.length+2)) (.int .i64 wi) (.int .i64 n) (.int .i64 d) (.slice (some ⟨ga,0,none⟩) ar.length (ar.length+2))).heap[w.heap.size+1]? =some (.cells (rc k x nm (.slice (some ⟨w.heap.size+2,0,none⟩) lb.length (lb.length+2)) wi n d (.slice (some ⟨ga,0,none⟩) ar.length (ar.length+2))) 26):=by
  obtain ⟨xs,hx,ho,hel⟩:=HI.ro
  have hgs:=HI.gs
  have hsz:=HI.sz
  have E1:=ex_gr hgr
  have E2:La.Ex w.heap.size w8 ((w8.setCell ⟨w.heap.size,3,none⟩ (.slice (some ⟨w.heap.size+2,0,none⟩) lb.length (lb.length+2))).setCell ⟨w.heap.size,7,none⟩ (.slice (some ⟨ga,0,none⟩) ar.length (ar.length+2))):=((La.Ex.refl _ _).set _ _).set _ _
  have E3:La.Ex (w.heap.size+1) ((w8.setCell ⟨w.heap.size,3,none⟩ (.slice (some ⟨w.heap.size+2,0,none⟩) lb.length (lb.length+2))).setCell ⟨w.heap.size,7,none⟩ (.slice (some ⟨ga,0,none⟩) ar.length (ar.length+2))) (put8 ((w8.setCell ⟨w.heap.size,3,none⟩ (.slice (some ⟨w.heap.size+2,0,none⟩) lb.length (lb.length+2))).setCell ⟨w.heap.size,7,none⟩ (.slice (some ⟨ga,0,none⟩) ar.length (ar.length+2))) (w.heap.size+1) (.int .i64 k) (.float .f64 x) (.string ⟨nm.toArray⟩) (.slice (some ⟨w.heap.size+2,0,none⟩) lb.length (lb.length+2)) (.int .i64 wi) (.int .i64 n) (.int .i64 d) (.slice (some ⟨ga,0,none⟩) ar.length (ar.length+2))):=put8_one _ _ _ _ _ _ _ _ _ _
  have s1:=E1.size
  have s2:=E2.size
  have hz8:((w8.setCell ⟨w.heap.size,3,none⟩ (.slice (some ⟨w.heap.size+2,0,none⟩) lb.length (lb.length+2))).setCell ⟨w.heap.size,7,none⟩ (.slice (some ⟨ga,0,none⟩) ar.length (ar.length+2))).heap[w.heap.size+1]? =some (.cells (rc 0 0 [] (.slice none 0 0) 0 0 0 (.slice none 0 0)) 26):=(E2.block _ (by omega) (by omega)).trans ((E1.block _ (by omega) (by omega)).trans HI.g2)
  refine ⟨⟨_,rfl,?_,?_⟩,put8_heap hz8 _ _ _ _ _ _ _ _⟩
  · unfold RV
    refine ⟨_,some ⟨ga,0,none⟩,ga,0,ar.length+2,rfl,(((LbV.of hown).ex E2 (by omega)).ex E3 (by omega)).mono (by omega),fun _=>⟨rfl,by omega⟩,by omega,by omega,rvs_of ar 0 fun j hj=>?_⟩
    obtain ⟨u,k1,k2,k3⟩:=hel j hj hj
    refine ⟨u,k1,fun q hq=>?_,(((k3.ex E1 (by omega)).ex E2 (by omega)).ex E3 (by omega)).mono (by omega)⟩
    rw [Nat.zero_add]
    have hblk:=(E3.block ga (by omega) (by omega)).trans ((E2.block ga (by omega) (by omega)).trans (E1.block ga (by omega) (by omega)))
    exact (World.cell?_of_block (w:=wr) (a:=⟨ga,j*8+q,none⟩) hblk).trans (own_cellq ho _ _ (k2 q hq))
  · exact ((HI.b.trans (E1.below (by omega) (by omega))).trans (E2.below (Nat.le_refl _) (by omega))).trans (E3.below (by omega) (by omega))
theorem of_any:∀ (t:RT) (v:Value) (w:World),RVh w t v→(∀ s ∈ nds t,szO s) →
    Calls Tryz.prog 6 #[v] w fun e w'=>OfQ t w e w':=by
  refine RT.ind ?_
  intro k x nm lb wi n d ar ih v w hv hz
  obtain ⟨hl0,ha0⟩:=hz _ (nds_self _)
  have hch:∀ i (hi:i < ar.length),∀ s ∈ nds ar[i],szO s:=fun i hi s hs=>hz s (by
    unfold nds
    exact List.mem_cons_of_mem _ (ndsL_mem (List.getElem_mem hi) hs))
  unfold RVh at hv
  obtain ⟨la,lc,qa,ab,ao,qc,rfl,hlb,hnil,haa,hac,hac2,hrs⟩:=hv
  obtain ⟨W0,hW0⟩:∃ W0,W0=(w.alloc (.cells (rc k x nm (.slice la lb.length lc) wi n d (.slice qa ar.length qc)) 26)).alloc (.cells (rc 0 0 [] (.slice none 0 0) 0 0 0 (.slice none 0 0)) 26):=⟨_,rfl⟩
  have hb0:Below w.heap.size w W0:=by rw [hW0];exact La.bel2 w _ _
  have hn0:W0.heap[w.heap.size]? =some (.cells (rc k x nm (.slice la lb.length lc) wi n d (.slice qa ar.length qc)) 26):=by rw [hW0];exact heap_alloc2_old w _ _
  have hz0:Z8 (w.heap.size+1) W0:=by
    rw [hW0]
    have:=new_1 (w.alloc (.cells (rc k x nm (.slice la lb.length lc) wi n d (.slice qa ar.length qc)) 26)) (.cells (rc 0 0 [] (.slice none 0 0) 0 0 0 (.slice none 0 0)) 26)
    rw [show (w.alloc (.cells (rc k x nm (.slice la lb.length lc) wi n d (.slice qa ar.length qc)) 26)).heap.size=w.heap.size+1 by simp] at this
    exact this
  have hs0:W0.heap.size=w.heap.size+2:=by rw [hW0];simp
  have HC:Hid (∀ i (hi:i < ar.length),∃ c:Array Value,IsRc c∧(∀ W,Below w.heap.size w W→∀ j (hj:j < c.size),W.cell? ⟨ab,ao+i*8+j,none⟩=some c[j])∧(∀ W,Below w.heap.size w W→Calls Tryz.prog 6 #[.agg c] W fun e w'=>OfQ ar[i] W e w')):=fun i hi=>by
    obtain ⟨c,h1,h2,h3⟩:=hrs.at_ i hi
    refine ⟨c,?_,fun W hb j hj=>cellH' hb (h3 j hj),fun W hb=>ih ar[i] (List.getElem_mem hi) (.agg c) W (RVh.below hb _ _ h1) (hch i hi)⟩
    obtain ⟨k',x',nm',la',ln',lc',w',n',d',aa',an',ac',e⟩:=(RVh.rv _ _ h1).form
    exact ⟨k',x',nm',la',ln',lc',w',n',d',aa',an',ac',by cases e;rfl⟩
  have HW0:=hid_of hW0
  have HB0:=hid_of hb0
  have HN0:=hid_of hn0
  have HZ0:=hid_of hz0
  have HS0:=hid_of hs0
  have HLb:=hid_of hlb
  have HNil:=hid_of hnil
  have HA:=hid_of haa
  have w1:IntKind.i64.wrap ((lb.length:Int)+2)=(lb.length:Int)+2:=by rw [IntKind.wrap_i64];omega
  have w2:IntKind.i64.wrap ((ar.length:Int)+2)=(ar.length:Int)+2:=by rw [IntKind.wrap_i64];omega
  have sF:=store_f
  clear ih hz hch hlb hnil haa hac2 hrs hW0 hb0 hn0 hz0 hs0
  go_enter Tryz.func6,Tryz.ntmps6
  go_upto_region 1 with fail
  rw [← HW0.out]
  clear HW0
  go_cut [3] from 7 to 11 (fun z W=>z=.slice (some ⟨w.heap.size+2,0,none⟩) 0 (lb.length+2)∧Hid (Below W0.heap.size W0 W)∧Hid (W.ownsRow (w.heap.size+2) 98 2 (.slice (some ⟨w.heap.size+2,0,none⟩) 0 (lb.length+2)) 0 []))
  case first =>
    obtain ⟨y0,y1,y2,y3,y4,y5,y6,y7⟩:=eight HN0.out
    clear y0 y1 y2 y4 y5 y6 y7 HC HA
    obtain ⟨i0,hi0,hz0,hz1,hz2⟩:=info_parts La.infoLabel
    have hz0':=hid_of hz0
    have hz1':=hid_of hz1
    have hz2':=hid_of hz2
    clear hz0 hz1 hz2
    go_wp2_with (first
      | (refine wpList_make_own _ rfl _ _ 23 rfl (w.heap.size+2) 98 i0 _ 2 Tryz.underlying23 hi0 hz0'.out hz1'.out .i64 .i64 _ (lb.length+2) rfl rfl (by first | rfl | omega | simp) (by rw [hz2'.out];omega) (by unfold maxLen;omega) (by rw [HS0.out];omega) ?_;intro w3 hown hgr))
    go_meet
    exact ⟨by rw [HS0.out],bel_g0 hgr,by rw [HS0.out] at hown;exact hown⟩
  case rest =>
  obtain ⟨rfl,HB1,HO1⟩:=hcut
  have HN1:=hid_of ((HB1.out.block _ (Array.getElem?_eq_some_iff.1 HN0.out).1).trans HN0.out)
  have HZ1:=hid_of (HZ0.out.below HB1.out)
  have HBw1:=hid_of (bt HB0.out HB1.out)
  clear HB1 HN0 HZ0 HB0 w1
  go_upto_region 2 with fail
  have HS1:Hid (w.heap.size+3≤wc.heap.size):=by
    have:=(own_atG HO1.out)
    rcases this with h | ⟨g,h1,h2,h3⟩
    · cases h
    · cases h1;show _≤_;omega
  obtain ⟨ga,hga⟩:∃ ga,ga=wc.heap.size:=⟨_,rfl⟩
  rw [← hga] at HS1
  have HGa:=hid_of hga
  clear hga
  go_cut [4] from 12 to 16 (fun z W=>z=.slice (some ⟨ga,0,none⟩) 0 (ar.length+2)∧Hid (OfI w (rc k x nm (.slice la lb.length lc) wi n d (.slice qa ar.length qc)) lb.length ar.length ga ar 0 W))
  case first =>
    obtain ⟨y0,y1,y2,y3,y4,y5,y6,y7⟩:=eight HN1.out
    clear y0 y1 y2 y3 y4 y5 y6 HC HA
    obtain ⟨i0,hi0,hz0,hz1,hz2⟩:=info_parts infoRule
    have hz0':=hid_of hz0
    have hz1':=hid_of hz1
    have hz2':=hid_of hz2
    clear hz0 hz1 hz2
    go_wp2_with (first
      | (refine wpList_make_own _ rfl _ _ 24 rfl (w.heap.size+2) 26 i0 _ 8 Tryz.underlying24 hi0 hz0'.out hz1'.out .i64 .i64 _ (ar.length+2) rfl rfl (by first | rfl | omega | simp) (by rw [hz2'.out];omega) (by unfold maxLen;omega) (by have:=HS1.out;have:=HGa.out;omega) ?_;intro w3 hown hgr))
    go_meet
    have hsz:ga+1≤w3.heap.size:=by
      rcases own_atG hown with h | ⟨g,h1,h2,h3⟩
      · cases h
      · cases h1
        have h3':wc.heap.size < w3.heap.size:=h3
        have:=HGa.out
        omega
    refine ⟨by rw [HGa.out],bt HBw1.out (bel_g0 hgr),((bel_g0 hgr).block _ (Array.getElem?_eq_some_iff.1 HN1.out).1).trans HN1.out,HZ1.out.below (bel_g0 hgr),own_belG HO1.out (bel_g0 hgr),⟨[],rfl,by rw [← HGa.out] at hown;exact hown,fun j _ h=>absurd h (by omega)⟩,HS1.out,hsz⟩
  case rest =>
  obtain ⟨rfl,HI0⟩:=hcut
  clear HN1 HZ1 HBw1 HO1 HGa HS1 w2 HS0
  go_upto_region 3 with fail
  obtain ⟨y0,y1,y2,y3,y4,y5,y6,y7⟩:=eight HI0.out.g1
  clear y0 y1 y2 y3 y4 y5 y6
  go_upto_region 4 with fail
  clear y7
  go_loopw [4,20] (fun v a W=>∃ i:Nat,i≤ar.length∧v=.slice (some ⟨ga,0,none⟩) i (ar.length+2)∧a=.int .i64 (i:Int)∧Hid (OfI w (rc k x nm (.slice la lb.length lc) wi n d (.slice qa ar.length qc)) lb.length ar.length ga ar i W)) (fun _ a _=>ar.length - (intOf a).toNat)
  case atStart=>exact ⟨0,by omega,rfl,rfl,HI0⟩
  case round =>
    clear HI0
    obtain ⟨i,hi,rfl,rfl,HI⟩:=hrel
    by_cases hlt:i < ar.length
    · have hlt':(i:Int) < (ar.length:Int):=by omega
      obtain rfl:=HA.out (by intro e;rw [e] at hlt;simp at hlt)
      obtain ⟨c,⟨k',x',nm',la',ln',lc',w',n',d',aa',an',ac',rfl⟩,hcs,hcall⟩:=HC.out i hlt
      have hix:=index_rl ab ao ar.length qc i (i:Int) rfl hlt
      obtain ⟨p1,hp1⟩:∃ p,p=ao+i*8:=⟨_,rfl⟩
      rw [← hp1] at hix hcs
      have cs:=hcs wr HI.out.b
      have x0:=cs 0 (by show 0 < 8;decide)
      have x1:=cs 1 (by show 1 < 8;decide)
      have x2:=cs 2 (by show 2 < 8;decide)
      have x3:=cs 3 (by show 3 < 8;decide)
      have x4:=cs 4 (by show 4 < 8;decide)
      have x5:=cs 5 (by show 5 < 8;decide)
      have x6:=cs 6 (by show 6 < 8;decide)
      have x7:=cs 7 (by show 7 < 8;decide)
      try simp only [Nat.add_zero] at x0
      have hbA:=bel1 wr (.cells (rc k' x' nm' (.slice la' ln' lc') w' n' d' (.slice aa' an' ac')) 26)
      have hnA:=new_1 wr (.cells (rc k' x' nm' (.slice la' ln' lc') w' n' d' (.slice aa' an' ac')) 26)
      have HI5:=hid_of (HI.out.below hbA)
      have HN5:=hid_of hnA
      have D:La.HidC _ _ _ _ _:=hcall _ HI5.out.b
      have HSr:Hid (ga+1≤wr.heap.size):=HI.out.sz
      clear cs hcs hcall hp1 HC HA HLb HNil hbA hnA HI
      go_upto_region 6 with fail
      have HSz5:Hid (ga+1≤(wr.alloc (.cells (rc k' x' nm' (.slice la' ln' lc') w' n' d' (.slice aa' an' ac')) 26)).heap.size):=HI5.out.sz
      generalize wr.alloc (.cells (rc k' x' nm' (.slice la' ln' lc') w' n' d' (.slice aa' an' ac')) 26)=W5 at *
      generalize wr.heap.size=gb at *
      clear x0 x1 x2 x3 x4 x5 x6 x7 hix
      obtain ⟨y0,y1,y2,y3,y4,y5,y6,y7⟩:=eight HN5.out
      go_wp2_with fail
      refine Calls.mono D.out ?_
      rintro e w6 ⟨v',rfl,hv',hb6⟩
      have HI6:=hid_of (HI5.out.below hb6)
      have hv6:=hv'.mono (B':=ga+1) HSz5.out
      obtain ⟨k2,x2,nm2,la2,ln2,lc2,wi2,n2,d2,aa2,an2,ac2,rfl⟩:=hv6.form
      have hbB:=bel1 w6 (.cells (rc k2 x2 nm2 (.slice la2 ln2 lc2) wi2 n2 d2 (.slice aa2 an2 ac2)) 26)
      have HI7:=hid_of (HI6.out.below hbB)
      have HV7:=hid_of (hv6.below hbB)
      have HN7:=hid_of (new_1 w6 (.cells (rc k2 x2 nm2 (.slice la2 ln2 lc2) wi2 n2 d2 (.slice aa2 an2 ac2)) 26))
      clear D hv' hb6 hv6 hbB HI5 HI6 HN5 HSz5 HSr y0 y1 y2 y3 y4 y5 y6 y7
      obtain ⟨xs,hx,ho,hel⟩:=HI7.out.ro
      have HX:=hid_of hx
      have HO:=hid_of ho
      have HEl:=hid_of hel
      clear hx ho hel
      obtain ⟨i0,hi0,hz0,hz1,hz2⟩:=info_parts infoRule
      have hz1':=hid_of hz1
      clear hz0 hz1 hz2
      have hnw:∀ (ad:Addr),some (⟨w6.heap.size,0,none⟩:Addr)=some ad→∀ j u,([.int .i64 k2,.float .f64 x2,.string ⟨nm2.toArray⟩,.slice la2 ln2 lc2,.int .i64 wi2,.int .i64 n2,.int .i64 d2,.slice aa2 an2 ac2]:List Value)[j]? =some u→(w6.alloc (.cells (rc k2 x2 nm2 (.slice la2 ln2 lc2) wi2 n2 d2 (.slice aa2 an2 ac2)) 26)).cell? (ad.add j)=some u:=fun ad e j u hu=>by
        cases e
        exact World.news_of_block HN7.out j u hu
      have HNw:=hid_of hnw
      clear hnw
      go_wp2_with (first
        | (at_builtin;refine wpList_append_fits_any _ rfl _ _ 24 rfl (w.heap.size+2) 26 i0 8 Tryz.underlying24 hi0 hz1'.out ga i (ar.length+2) xs rfl HO.out (some ⟨w6.heap.size,0,none⟩) 1 1 [.int .i64 k2,.float .f64 x2,.string ⟨nm2.toArray⟩,.slice la2 ln2 lc2,.int .i64 wi2,.int .i64 n2,.int .i64 d2,.slice aa2 an2 ac2] rfl rfl (fun e=>by cases e) HNw.out (by simp [Value.oneCell']) (by omega) ?_;intro w8 hown hgr;have HI8:=hid_of (OfI.push HI7.out hlt HX.out HO.out HEl.out (u:=rc k2 x2 nm2 (.slice la2 ln2 lc2) wi2 n2 d2 (.slice aa2 an2 ac2)) rfl HV7.out hown hgr);clear hown hgr HI7 HX HO HEl HV7 HN7))
      exact ⟨⟨i+1,by omega,rfl,by go_num,HI8⟩,by simp [intOf];omega⟩
    · obtain rfl:i=ar.length:=by omega
      have hlt':¬ (ar.length:Int) < (ar.length:Int):=by omega
      obtain ⟨ao',b',o',cap',hveq,h1,h2,h3,h4⟩:=HLb.out.below HI.out.b
      cases hveq
      have hc:∀ ad,la=some ad→∀ j u,(La.flL lb)[j]? =some u→wr.cell? (ad.add j)=some u:=fun ad e j u hu=>by
        by_cases q:lb=[]
        · subst q;simp [La.flL] at hu
        · have:=(h1 q).1
          rw [e] at this
          cases this
          exact rowL_cells h4 j u hu
      have hn0:la=none→lb.length=0∧lc=0:=fun e=>by
        refine ⟨?_,HNil.out e⟩
        by_cases q:lb=[]
        · rw [q];rfl
        · have:=(h1 q).1
          rw [e] at this
          cases this
      have HCc:=hid_of hc
      have HN0:=hid_of hn0
      have HFl:=hid_of (flL_one lb)
      have HFn:=hid_of (La.flL_length lb)
      obtain ⟨y0,y1,y2,y3,y4,y5,y6,y7⟩:=eight HI.out.g1
      obtain ⟨i0,hi0,hz0,hz1,hz2⟩:=info_parts La.infoLabel
      have hz1':=hid_of hz1
      have Hsz:Hid (w.heap.size+3≤wr.heap.size):=by have:=HI.out.sz;have:=HI.out.gs;show _≤_;omega
      have HLr:=hid_of HI.out.lr
      clear hz0 hz1 hz2 hc hn0 h1 h2 h3 h4 HC HA HLb HNil y0 y1 y2 y4 y5 y6 y7
      go_wp2_with (first
        | (at_builtin;refine wpList_append_fits_any _ rfl _ _ 23 rfl (w.heap.size+2) 98 i0 2 Tryz.underlying23 hi0 hz1'.out (w.heap.size+2) 0 (lb.length+2) [] rfl HLr.out la lb.length lc (La.flL lb) rfl HFn.out HN0.out HCc.out HFl.out (by omega) ?_;intro w8 hown hgr;have g1':=(hgr.block w.heap.size (by have:=Hsz.out;omega) (by intro e;have:=Option.some.inj e;omega)).trans HI.out.g1;have g2':=(hgr.block (w.heap.size+1) (by have:=Hsz.out;omega) (by intro e;have:=Option.some.inj e;omega)).trans HI.out.g2;clear y3;obtain ⟨y0,y1,y2,y3,y4,y5,y6,y7⟩:=eight g1';have yf:=eight_f g1';obtain ⟨z0,z1,z2,z3,z4,z5,z6,z7⟩:=eight g2';have zf:=eight_f g2';rw [Nat.zero_add,List.nil_append] at hown;have HE:=of_end k x nm lb wi n d ar HI.out hown hgr ha0;have HE1:=hid_of HE.1;have HE2:=hid_of HE.2;clear HE hown hgr g1' g2' HI HLr HN0 HCc HFl HFn Hsz))
      obtain ⟨W9,hW9⟩:∃ W9,W9=(put8 ((w8.setCell ⟨w.heap.size,3,none⟩ (.slice (some ⟨w.heap.size+2,0,none⟩) lb.length (lb.length+2))).setCell ⟨w.heap.size,7,none⟩ (.slice (some ⟨ga,0,none⟩) ar.length (ar.length+2))) (w.heap.size+1) (.int .i64 k) (.float .f64 x) (.string ⟨nm.toArray⟩) (.slice (some ⟨w.heap.size+2,0,none⟩) lb.length (lb.length+2)) (.int .i64 wi) (.int .i64 n) (.int .i64 d) (.slice (some ⟨ga,0,none⟩) ar.length (ar.length+2))):=⟨_,rfl⟩
      rw [← hW9] at HE1 HE2
      refine bodyPost_ret (results_cell_row (P:=Tryz.prog) rfl _ _ (w.heap.size+1) 26 _ (0,0) _ rfl (by rw [hW9] at HE2;exact HE2.out) Tryz.underlying26 rfl (by kernel_rfl)) rfl ?_
      rw [hW9] at HE1
      exact HE1.out
end Go.Proofs.YtibahfopmjiffaaGreatDoor.Ru
/- RULES: THE DOOR: a rule that is handed in, opened. Own work of the verifier. -/
set_option maxRecDepth 100000
set_option maxHeartbeats 1000000
namespace Go.Proofs.YtibahfopmjiffaaGreatDoor.Ru
open Go.ChangeShapes Go.WideShapes Go.ChangeAt Go.RowKit Go.Joins Me
theorem dcellsI64:Tryz.prog.cellsOf 2=1:=by kernel_rfl
theorem dcellsInt:Tryz.prog.cellsOf 3=1:=by kernel_rfl
theorem dcellsS:Tryz.prog.cellsOf 9=1:=by kernel_rfl
theorem dcellsF:Tryz.prog.cellsOf 22=1:=by kernel_rfl
theorem dcellsLb:Tryz.prog.cellsOf 98=2:=by kernel_rfl
theorem dcellsSL:Tryz.prog.cellsOf 23=1:=by kernel_rfl
theorem dcellsR:Tryz.prog.cellsOf 26=8:=by kernel_rfl
theorem dcellsSR:Tryz.prog.cellsOf 24=1:=by kernel_rfl
theorem dbytesLb:Tryz.prog.bytesOf 98=32:=by kernel_rfl
theorem dlaidOut:laidOutB Tryz.prog=true:=by kernel_rfl
theorem drange {n:Int} (h:(Lit.int .i64 n).wf=true):-9223372036854775808≤n∧n≤9223372036854775807:=by
  simpa [Lit.wf,IntKind.min,IntKind.max,IntKind.signed,IntKind.bits] using h
def strV (v:Value):List UInt8:=match v with | .string s=>s.data.toList | _=>[]
def szA (s:RT):Prop:=szN s∧szI s∧szB s
section
variable {H:Type} {enc:TypeId × Value→H}
theorem dall_mem {l:List Nat} {B n:Nat} (h:l.all (·≤B)=true) (hn:n ∈ l):n≤B:=by
  have:=List.all_eq_true.1 h n hn
  simpa using this
theorem dw_aggs (P:Program) (e:TypeId) (D:Nat→DataW H) (n i:Nat) (hi:i < n) (k:Nat) (hk:k ∈ (D i).weights P e):k ∈ DataW.weightsAll P e ((List.range n).map D):=by
  have key:∀ l:List Nat,i ∈ l→k ∈ DataW.weightsAll P e (l.map D):=fun l hl=>by
    induction l with
    | nil=>cases hl
    | cons x r ih =>
      rw [List.map_cons,DataW.weightsAll,List.mem_append]
      rcases List.mem_cons.1 hl with rfl | h
      · exact Or.inl hk
      · exact Or.inr (ih h)
  exact key _ (List.mem_range.2 hi)
theorem dw_mem (P:Program) (e:TypeId) {k:Nat} {d:DataW H}:∀ {l:List (DataW H)},d ∈ l→k ∈ d.weights P e→k ∈ DataW.weightsAll P e l
  | [],h,_=>by cases h
  | x::r,h,hk=>by
    rw [DataW.weightsAll,List.mem_append]
    rcases List.mem_cons.1 h with rfl | h
    · exact Or.inl hk
    · exact Or.inr (dw_mem P e h hk)
theorem dtrod_f64 {P:Program} {w:World} {base:Nat} {spare:Nat→Bool} {held:Bool} {fuel:Nat} {t:TypeId} {cs:List Value} {x:DataW H × List MemPlace} (ht:P.underlying t=some (.float .f64)) (h:DataW.trod enc P w base spare held fuel t cs=some x):∃ b:Nat,cs=[.float .f64 b]∧b < 18446744073709551616:=by
  cases fuel with
  | zero=>simp [DataW.trod] at h
  | succ n =>
    unfold DataW.trod at h
    rw [ht] at h
    split at h <;> simp_all
    rename_i k k' b e
    subst e
    simpa [Lit.wf] using h.1.2
theorem dopen_labels {W:World} {fuel:Nat} {v:Value} {x:DataW H × List MemPlace} (h:DataW.trod enc Tryz.prog W 0 (fun _=>true) true fuel 23 [v]=some x) (hw:(x.1.weights Tryz.prog 23).all (·≤reachBytes)=true) :
    ∃ (L:List La.Lb) (la:Option Addr) (lc:Nat),v=.slice la L.length lc∧LbV 0 W v L∧(la=none→lc=0)∧L.length≤140737488355328∧(∀ a ∈ L,a.1.length≤140737488351232∧a.2.length≤140737488351232):=by
  rcases Deep.open_slice_pairs Tryz.underlying23 Tryz.underlying98 dcellsLb rfl rfl dcellsS dcellsS h with ⟨hcs,_⟩ | ⟨a,len,cap,m,n,V0,V1,D0,D1,P0,P1,hcs,_,hl,hm,hmm,rfl,hx⟩
  · simp at hcs
    subst hcs
    exact ⟨[],none,0,rfl,LbV.nil _ _,fun _=>rfl,by simp,fun a ha=>by cases ha⟩
  · simp at hcs
    subst hcs
    simp only [if_true] at hmm
    subst hmm
    have hcap:m≤9223372036854775807:=by unfold maxLen at hm;omega
    have key:∀ i,i < m→∃ (s t:List UInt8),V0 i=.string ⟨s.toArray⟩∧V1 i=.string ⟨t.toArray⟩∧D0 i=.lit (.string s)∧D1 i=.lit (.string t):=fun i hi=>by
      obtain ⟨_,_,h0,h1⟩:=hx i hi
      obtain ⟨s,e0,f0,_⟩:=DataW.trod_string Tryz.underlying9 h0
      obtain ⟨t,e1,f1,_⟩:=DataW.trod_string Tryz.underlying9 h1
      simp at e0 e1
      exact ⟨s.data.toList,t.data.toList,e0,e1,(Prod.mk.inj f0).1,(Prod.mk.inj f1).1⟩
    have hLlen:((List.range len).map fun i=>((strV (V0 i),strV (V1 i)):La.Lb)).length=len:=by simp
    have hbnd:∀ c ∈ ((List.range len).map fun i=>((strV (V0 i),strV (V1 i)):La.Lb)),c.1.length≤140737488351232∧c.2.length≤140737488351232:=fun c hc=>by
      obtain ⟨i,hi,rfl⟩:=List.mem_map.1 hc
      have hi':=List.mem_range.1 hi
      obtain ⟨s,t,e0,e1,e2,e3⟩:=key i (by omega)
      simp only [DataW.weights,Tryz.underlying23] at hw
      have hin:∀ k,k ∈ (DataW.agg [D0 i,D1 i]:DataW H).weights Tryz.prog 98→k≤reachBytes:=fun k hk=>dall_mem hw (List.mem_cons_of_mem _ (List.mem_append_left _ (dw_aggs Tryz.prog 98 (fun i=>DataW.agg [D0 i,D1 i]) len i hi' k hk)))
      rw [e2,e3] at hin
      simp only [DataW.weights,Tryz.underlying98,DataW.weightsEach,List.map_cons,List.map_nil] at hin
      unfold reachBytes at hin
      simp only [e0,e1]
      have es:s.length≤140737488351232:=hin s.length (by simp)
      have et:t.length≤140737488351232:=hin t.length (by simp)
      exact ⟨es,et⟩
    have hn:len≤140737488355328:=by
      simp only [DataW.weights,Tryz.underlying23,dbytesLb,List.all_cons,Bool.and_eq_true,decide_eq_true_eq,List.length_map,List.length_range] at hw
      have:=hw.1
      unfold reachBytes at this
      omega
    refine ⟨(List.range len).map fun i=>((strV (V0 i),strV (V1 i)):La.Lb),some a,m,by rw [hLlen],?_,(fun e=>by cases e),(by rw [hLlen];exact hn),hbnd⟩
    rcases Nat.eq_zero_or_pos len with k0 | k0
    · subst k0
      exact ⟨some a,0,0,m,rfl,fun e=>absurd rfl e,Nat.zero_le _,hcap,fun i hi=>by simp at hi⟩
    · obtain ⟨b,off,spot⟩:=a
      have hspot:spot=none:=by
        have:=World.cell?_spot (hx 0 (by omega)).1
        simpa [Addr.add] using this
      subst hspot
      refine ⟨_,b,off,m,by rw [hLlen],fun _=>⟨rfl,Nat.zero_le _⟩,by rw [hLlen];exact hl,hcap,fun i hi=>?_⟩
      rw [hLlen] at hi
      obtain ⟨c0,c1,_,_⟩:=hx i (by omega)
      obtain ⟨s,t,e0,e1,_⟩:=key i (by omega)
      rw [Addr.add_lit] at c0 c1
      simp only [List.getElem_map,List.getElem_range]
      rw [e0] at c0 ⊢
      rw [e1] at c1 ⊢
      exact ⟨c0,by rw [← Nat.add_assoc] at c1;exact c1⟩
theorem rvhs_of {b:Nat} {W:World}:∀ (ar:List RT) (o:Nat),(∀ j (h:j < ar.length),∃ u:Array Value,u.size=8∧(∀ q (k:q < u.size),W.cell? ⟨b,o+j*8+q,none⟩=some u[q])∧RVh W ar[j] (.agg u))→RVhs W b o ar
  | [],_,_=>by unfold RVhs;trivial
  | t::ar,o,h=>by
    unfold RVhs
    obtain ⟨u,h1,h2,h3⟩:=h 0 (by simp)
    refine ⟨⟨u,h3,h1,fun j hj=>by have:=h2 j hj;rw [Nat.zero_mul,Nat.add_zero] at this;exact this⟩,rvhs_of ar (o+8) fun j hj=>?_⟩
    obtain ⟨u',k1,k2,k3⟩:=h (j+1) (by simpa using hj)
    exact ⟨u',k1,fun q k=>by rw [show o+8+j*8+q=o+(j+1)*8+q by omega];exact k2 q k,k3⟩
theorem ndsL_ex {s:RT}:∀ {ar:List RT},s ∈ ndsL ar→∃ a ∈ ar,s ∈ nds a
  | [],h=>by unfold ndsL at h;cases h
  | t::ar,h=>by
    unfold ndsL at h
    rcases List.mem_append.1 h with h | h
    · exact ⟨t,List.mem_cons_self,h⟩
    · obtain ⟨a,h1,h2⟩:=ndsL_ex h
      exact ⟨a,List.mem_cons_of_mem _ h1,h2⟩
theorem open_rulec:∀ (fuel:Nat) {W:World} {cs:List Value} {x:DataW H × List MemPlace},DataW.trod enc Tryz.prog W 0 (fun _=>true) true fuel 26 cs=some x→(x.1.weights Tryz.prog 26).all (·≤reachBytes)=true →
    ∃ (t:RT) (u:Array Value),cs=u.toList∧u.size=8∧RVh W t (.agg u)∧∀ s ∈ nds t,szA s:=by
  intro fuel
  induction fuel using Nat.strongRecOn with
  | ind fuel ih =>
  intro W cs x h hw
  obtain ⟨xs,m,hfu,hx,hl,hlen,hfs⟩:=DataW.trod_struct Tryz.underlying26 h
  rw [dcellsR] at hl
  match cs,hl,xs,hlen with
  | [c0,c1,c2,c3,c4,c5,c6,c7],_,[y0,y1,y2,y3,y4,y5,y6,y7],_ =>
    have g0:=hfs 0 _ rfl
    have g1:=hfs 1 _ rfl
    have g2:=hfs 2 _ rfl
    have g3:=hfs 3 _ rfl
    have g4:=hfs 4 _ rfl
    have g5:=hfs 5 _ rfl
    have g6:=hfs 6 _ rfl
    have g7:=hfs 7 _ rfl
    simp [dcellsInt,dcellsF,dcellsS,dcellsSL,dcellsI64,dcellsSR] at g0 g1 g2 g3 g4 g5 g6 g7
    have hxx:=Prod.ext_iff.1 hx
    rw [hxx.1] at hw
    simp only [List.map_cons,List.map_nil,DataW.weights,Tryz.underlying26,DataW.weightsEach,List.all_append,Bool.and_eq_true] at hw
    obtain ⟨_,_,k2,k3,_,_,_,k7,_⟩:=hw
    obtain ⟨z0,e0,_,_⟩:=DataW.trod_int Tryz.underlying3 g0
    obtain ⟨z1,e1,w1⟩:=dtrod_f64 Tryz.underlying22 g1
    obtain ⟨s2,e2,r2,_⟩:=DataW.trod_string Tryz.underlying9 g2
    obtain ⟨L,la,lc,e3,hL,hn,hLl,hLb⟩:=dopen_labels g3 k3
    obtain ⟨z4,e4,_,w4⟩:=DataW.trod_int Tryz.underlying2 g4
    obtain ⟨z5,e5,_,w5⟩:=DataW.trod_int Tryz.underlying2 g5
    obtain ⟨z6,e6,_,w6⟩:=DataW.trod_int Tryz.underlying2 g6
    simp at e0 e1 e2 e4 e5 e6
    subst e0 e1 e2 e3 e4 e5 e6
    rw [r2] at k2
    unfold reachBytes at k2
    simp [DataW.weights] at k2
    have hs2:s2.data.toList.length≤140737488351232:=by have e:s2.data.toList.length=s2.size:=rfl;omega
    have hA0:∀ ar,szA (.mk z0 z1 s2.data.toList L z4 z5 z6 ar):=fun ar=>⟨⟨w1,by show s2.data.toList.length≤_;omega,by show (0:Nat)≤_;omega,fun a ha=>by have:=hLb a ha;omega⟩,⟨drange w4,drange w5,drange w6⟩,hLl⟩
    rcases DataW.trod_slice Tryz.underlying24 g7 with ⟨hcs,_⟩ | ⟨a,len,cap,elems,rest,n,hmn,hcs,hxe,-,hl7,hm7,hle,hel,-⟩
    · simp at hcs
      subst hcs
      refine ⟨.mk z0 z1 s2.data.toList L z4 z5 z6 [],#[.int .i64 z0,.float .f64 z1,.string s2,.slice la L.length lc,.int .i64 z4,.int .i64 z5,.int .i64 z6,.slice none 0 0],rfl,rfl,?_,fun s hs=>?_⟩
      · unfold RVh
        exact ⟨la,lc,none,0,0,0,rfl,hL,hn,fun e=>absurd rfl e,Nat.le_refl _,by decide,by unfold RVhs;trivial⟩
      · have:s=.mk z0 z1 s2.data.toList L z4 z5 z6 []:=by simpa [nds,ndsL] using hs
        subst this
        exact hA0 _
    · simp at hcs
      subst hcs
      rw [(Prod.ext_iff.1 hxe).1] at k7
      simp only [DataW.weights,Tryz.underlying24] at k7
      have each:∀ i,i < len→∃ (t:RT) (u:Array Value),(∀ q (k:q < u.size),W.cell? (a.add (i*8+q))=some u[q])∧u.size=8∧RVh W t (.agg u)∧∀ s ∈ nds t,szA s:=fun i hi=>by
        have hE:=hel i hi
        rw [dcellsR,List.getElem?_eq_getElem (by omega)] at hE
        obtain ⟨cs1,h1,h2⟩:=Option.bind_eq_some_iff.1 hE
        obtain ⟨t,u,rfl,hu8,hv,hs⟩:=ih n (by omega) h2 (List.all_eq_true.2 fun k hk=>List.all_eq_true.1 k7 k (List.mem_cons_of_mem _ (List.mem_append_left _ (dw_mem Tryz.prog 26 (List.mem_map.2 ⟨elems[i]'(by omega),List.getElem_mem _,rfl⟩) hk))))
        obtain ⟨_,_,h3⟩:=World.cells?_some h1
        refine ⟨t,u,fun q k=>?_,hu8,hv,hs⟩
        have:=h3 q (by omega)
        rw [Addr.add_add] at this
        rw [this,Array.getElem?_toList]
        exact Array.getElem?_eq_getElem k
      obtain ⟨f,hf⟩:∃ f:Nat→RT,∀ i,i < len→∃ u:Array Value,(∀ q (k:q < u.size),W.cell? (a.add (i*8+q))=some u[q])∧u.size=8∧RVh W (f i) (.agg u)∧∀ s ∈ nds (f i),szA s:=by
        refine ⟨fun i=>if hi:i < len then Classical.choose (each i hi) else .zero,fun i hi=>?_⟩
        simp only [hi,dif_pos]
        exact Classical.choose_spec (each i hi)
      have hlen7:((List.range len).map f).length=len:=by simp
      refine ⟨.mk z0 z1 s2.data.toList L z4 z5 z6 ((List.range len).map f),#[.int .i64 z0,.float .f64 z1,.string s2,.slice la L.length lc,.int .i64 z4,.int .i64 z5,.int .i64 z6,.slice (some a) len cap],rfl,rfl,?_,fun s hs=>?_⟩
      · unfold RVh
        have hcap:cap≤9223372036854775807:=by unfold maxLen at hm7;omega
        rcases Nat.eq_zero_or_pos len with k0 | k0
        · subst k0
          exact ⟨la,lc,some a,0,0,cap,rfl,hL,hn,fun e=>absurd rfl e,Nat.zero_le _,hcap,by show RVhs W 0 0 [];unfold RVhs;trivial⟩
        · obtain ⟨b,off,spot⟩:=a
          have hspot:spot=none:=by
            obtain ⟨u,q1,q2,-⟩:=hf 0 k0
            have:=World.cell?_spot (q1 0 (by omega))
            simpa [Addr.add] using this
          subst hspot
          refine ⟨la,lc,some ⟨b,off,none⟩,b,off,cap,by rw [hlen7],hL,hn,fun _=>rfl,by rw [hlen7];exact hl7,hcap,rvhs_of _ _ fun j hj=>?_⟩
          rw [hlen7] at hj
          obtain ⟨u,q1,q2,q3,-⟩:=hf j hj
          refine ⟨u,q2,fun q k=>?_,by simpa using q3⟩
          have:=q1 q k
          rw [Addr.add_lit,← Nat.add_assoc] at this
          exact this
      · unfold nds at hs
        rcases List.mem_cons.1 hs with rfl | hs
        · exact hA0 _
        · obtain ⟨a',h1,h2⟩:=ndsL_ex hs
          obtain ⟨i,hi,rfl⟩:=List.mem_map.1 h1
          obtain ⟨u,-,-,-,h3⟩:=hf i (List.mem_range.1 hi)
          exact h3 s h2
theorem open_rule {W:World} {base:Nat} {v:Value} {d:DataW H} {pl:List MemPlace} (hv:Value.okWide Tryz.prog W .any base 26 v) (h:DataW.Trod enc Tryz.prog W 0 (fun _=>true) true 26 v d pl) (hw:(d.weights Tryz.prog 26).all (·≤reachBytes)=true) :
    ∃ t:RT,RVh W t v∧∀ s ∈ nds t,szA s:=by
  obtain ⟨cs,rfl,hsz⟩:=okWide_struct Tryz.underlying26 hv
  obtain ⟨fuel,hf⟩:=h
  obtain ⟨t,u,e,-,h1,h2⟩:=open_rulec fuel hf hw
  have hu:cs=u:=by
    apply Array.ext'
    simpa [Value.cells] using e
  subst hu
  exact ⟨t,h1,h2⟩
end
end Go.Proofs.YtibahfopmjiffaaGreatDoor.Ru
