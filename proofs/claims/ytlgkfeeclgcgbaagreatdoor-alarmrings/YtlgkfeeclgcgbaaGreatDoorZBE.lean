/- VALUES IN ORDER, THOSE OF ONE SERIES AS ONE: memory. Own work of the verifier. -/
import Derived.Test.YtlgkfeeclgcgbaaGreatDoorZBD
import Derived.BigQuiet
namespace Go.Proofs.YtlgkfeeclgcgbaaGreatDoor
open Go.RowKit Me
noncomputable def jnL:List Vl→Option Vl→List Vl→List Vl × Int
 | J,_,[]=>(J,0)
 | J,none,v::r=>jnL (J++[v]) (some v) r
 | J,some p,v::r=>if La.ordD p.d v.d≠0 then jnL (J++[v]) (some v) r else if (joinV p v).2≠0 then ([],(joinV p v).2) else jnL (J.dropLast++[(joinV p v).1]) (some v) r
def No3 (L:List Vl):Prop:=∀ i (h:i+2 < L.length),¬ (La.ordD (L[i]'(by omega)).d (L[i+1]'(by omega)).d=0∧La.ordD (L[i+1]'(by omega)).d L[i+2].d=0)
def Ap (u v:Value):Prop:=∀ g,u.ownBlock=some g→v.ownBlock≠some g
theorem ap_sym {u v:Value} (h:Ap u v):Ap v u:=fun g h1 h2=>h g h2 h1
theorem ap_of {W W1:World} {B:Nat} {e e':TypeId} {s s' n n':Nat} {u v:Value} {xs ys:List Value} (h:W.ownsRow B e s u n xs) (h':W1.ownsRow W.heap.size e' s' v n' ys):Ap u v:=fun g hg hv=>by
 rcases own_atG h with k | ⟨g1,k,_,k2⟩
 ·rw [k] at hg;cases hg
 ·rw [k] at hg;cases hg
  rcases own_atG h' with q | ⟨g2,q,q1,_⟩
  ·rw [q] at hv;cases hv
  ·rw [q] at hv;cases hv;omega
def Dj (J:List Rv):Prop:=∀ i j (hi:i < J.length) (hj:j < J.length),i≠j→Ap J[i].2.1 J[j].2.1∧Ap J[i].2.2 J[j].2.2
theorem Dj.nil:Dj []:=fun i _ hi=>absurd hi (by simp)
theorem Dj.push {J:List Rv} {r:Rv} (h:Dj J) (k:∀ x ∈ J,Ap x.2.1 r.2.1∧Ap x.2.2 r.2.2):Dj (J++[r]):=fun i j hi hj hne=>by
 rw [List.length_append,List.length_singleton] at hi hj
 by_cases c1:i < J.length
 ·by_cases c2:j < J.length
  ·rw [List.getElem_append_left c1,List.getElem_append_left c2]
   exact h i j c1 c2 hne
  ·have e:j=J.length:=by omega
   subst e
   rw [List.getElem_append_left c1,List.getElem_concat_length rfl]
   exact k _ (List.getElem_mem c1)
 ·have e:i=J.length:=by omega
  subst e
  have c2:j < J.length:=by omega
  rw [List.getElem_append_left c2,List.getElem_concat_length rfl]
  have:=k _ (List.getElem_mem c2)
  exact ⟨ap_sym this.1,ap_sym this.2⟩
theorem Dj.set {J:List Rv} {r:Rv} {m:Nat} (h:Dj J) (k:∀ j (hj:j < J.length),j≠m→Ap J[j].2.1 r.2.1∧Ap J[j].2.2 r.2.2):Dj (J.set m r):=fun i j hi hj hne=>by
 have hi':i < J.length:=by rw [List.length_set] at hi;exact hi
 have hj':j < J.length:=by rw [List.length_set] at hj;exact hj
 by_cases c1:i=m
 ·subst c1
  rw [List.getElem_set_self,List.getElem_set_ne hne]
  have:=k j hj' (fun e=>hne e.symm)
  exact ⟨ap_sym this.1,ap_sym this.2⟩
 ·by_cases c2:j=m
  ·subst c2
   rw [List.getElem_set_self,List.getElem_set_ne (fun e=>c1 e.symm)]
   exact k i hi' c1
  ·rw [List.getElem_set_ne (fun e=>c1 e.symm),List.getElem_set_ne (fun e=>c2 e.symm)]
   exact h i j hi' hj' hne
structure JV (w:World) (v:Value) (J:List Rv) (W:World):Prop where
 g:GV w.heap.size w v J W
 el:∀ r ∈ J,OwnL w.heap.size r.2.1 r.1.d.labels W∧OwnC w.heap.size r.2.2 r.1.cs W
 dj:Dj J
theorem JV.nil (w:World):JV w (.slice none 0 0) [] w:=⟨GV.nil (Below.refl _ _) (Nat.le_refl _),(fun r hr=>by cases hr),Dj.nil⟩
theorem JV.keep {w W W':World} {v:Value} {J:List Rv} (h:JV w v J W) (hb:Below W.heap.size W W'):JV w v J W':=⟨h.g.keep hb,fun r hr=>⟨own_belG (h.el r hr).1 hb,own_belG (h.el r hr).2 hb⟩,h.dj⟩
theorem typesLV:(152:TypeId)≠86:=by decide
theorem typesCV:(174:TypeId)≠86:=by decide
theorem JV.push {w W W1 W':World} {v v':Value} {J:List Rv} {r:Rv} (h:JV w v J W) (hb:Below W.heap.size W W1) (hl:OwnL w.heap.size r.2.1 r.1.d.labels W1) (hc:OwnC w.heap.size r.2.2 r.1.cs W1) (hd:∀ x ∈ J,Ap x.2.1 r.2.1∧Ap x.2.2 r.2.2) (hown:W'.ownsRow w.heap.size 86 11 v' (J.length+1) (flV J++flV [r])) (hg:W1.grownBy W' v.ownBlock):JV w v' (J++[r]) W':=by
 have h1:=h.keep hb
 refine ⟨h1.g.grow (ys:=[r]) h1.g.below h1.g.size hown hg,fun q hq=>?_,h.dj.push hd⟩
 have key:∀ q:Rv,OwnL w.heap.size q.2.1 q.1.d.labels W1∧OwnC w.heap.size q.2.2 q.1.cs W1→OwnL w.heap.size q.2.1 q.1.d.labels W'∧OwnC w.heap.size q.2.2 q.1.cs W':=fun q k =>
  ⟨World.ownsRow.kept k.1 hg (own_apart k.1 h1.g.own typesLV),World.ownsRow.kept k.2 hg (own_apart k.2 h1.g.own typesCV)⟩
 rcases List.mem_append.1 hq with k | k
 ·exact key q (h1.el q k)
 ·rw [List.mem_singleton] at k
  subst k
  exact key q ⟨hl,hc⟩
theorem flV_set (J:List Rv) (m:Nat) (r:Rv) (hm:m < J.length):(((((((((((flV J).set (m*11) (.int .i64 r.1.d.kind)).set (m*11+1) (.string ⟨r.1.d.name.toArray⟩)).set (m*11+2) (.string ⟨r.1.d.help.toArray⟩)).set (m*11+3) r.2.1).set (m*11+4) (.int .i64 (hiOf r.1.t))).set (m*11+5) (.int .u64 (loOf r.1.t))).set (m*11+6) r.2.2).set (m*11+7) (.int .u64 (r.1.n:Int))).set (m*11+8) (.float .f64 r.1.sum)).set (m*11+9) (.float .f64 r.1.mn)).set (m*11+10) (.float .f64 r.1.mx)=flV (J.set m r):=by
 apply List.ext_getElem?
 intro k
 have hlen:(flV J).length=J.length*11:=flV_length J
 by_cases hk:k < J.length*11
 ·have hi:k / 11 < J.length:=by omega
  have hj:k % 11 < 11:=by omega
  have ek:k / 11*11+k % 11=k:=by omega
  have e2:=flV_get (J.set m r) (k / 11) (k % 11) (by rw [List.length_set];exact hi) hj
  have e1:=flV_get J (k / 11) (k % 11) hi hj
  rw [ek] at e1 e2
  rw [e2]
  by_cases hkm:k / 11=m
  ·subst hkm
   rw [List.getElem_set_self]
   have ek':k=k / 11*11+k % 11:=ek.symm
   generalize hq:k / 11=q at *
   generalize hj':k % 11=j at *
   rw [ek']
   have hql:∀ c,c < 11→q*11+c < (flV J).length:=fun c hc=>by rw [hlen];omega
   match j,hj with
   | 0,_=>simp [List.getElem?_set,hlen];omega
   | 1,_=>simp [List.getElem?_set,List.length_set,hlen];omega
   | 2,_=>simp [List.getElem?_set,List.length_set,hlen];omega
   | 3,_=>simp [List.getElem?_set,List.length_set,hlen];omega
   | 4,_=>simp [List.getElem?_set,List.length_set,hlen];omega
   | 5,_=>simp [List.getElem?_set,List.length_set,hlen];omega
   | 6,_=>simp [List.getElem?_set,List.length_set,hlen];omega
   | 7,_=>simp [List.getElem?_set,List.length_set,hlen];omega
   | 8,_=>simp [List.getElem?_set,List.length_set,hlen];omega
   | 9,_=>simp [List.getElem?_set,List.length_set,hlen];omega
   | 10,_=>simp [List.getElem?_set,List.length_set,hlen];omega
  ·rw [List.getElem_set_ne (by omega),← e1]
   rw [List.getElem?_set_ne (by omega),List.getElem?_set_ne (by omega),List.getElem?_set_ne (by omega),List.getElem?_set_ne (by omega),List.getElem?_set_ne (by omega),List.getElem?_set_ne (by omega),List.getElem?_set_ne (by omega),List.getElem?_set_ne (by omega),List.getElem?_set_ne (by omega),List.getElem?_set_ne (by omega),List.getElem?_set_ne (by omega)]
 ·rw [List.getElem?_eq_none (by simp [hlen];omega),List.getElem?_eq_none (by rw [flV_length,List.length_set];omega)]
def putR (W:World) (g o:Nat) (v0 v1 v2 v3 v4 v5 v6 v7 v8 v9 v10:Value):World:=((((((((((W.setCell ⟨g,o,none⟩ v0).setCell ⟨g,o+1,none⟩ v1).setCell ⟨g,o+2,none⟩ v2).setCell ⟨g,o+3,none⟩ v3).setCell ⟨g,o+4,none⟩ v4).setCell ⟨g,o+5,none⟩ v5).setCell ⟨g,o+6,none⟩ v6).setCell ⟨g,o+7,none⟩ v7).setCell ⟨g,o+8,none⟩ v8).setCell ⟨g,o+9,none⟩ v9).setCell ⟨g,o+10,none⟩ v10
theorem putR_eq (W:World) (g o:Nat) (v0 v1 v2 v3 v4 v5 v6 v7 v8 v9 v10:Value):((((((((((W.setCell ⟨g,o,none⟩ v0).setCell ⟨g,o+1,none⟩ v1).setCell ⟨g,o+2,none⟩ v2).setCell ⟨g,o+3,none⟩ v3).setCell ⟨g,o+4,none⟩ v4).setCell ⟨g,o+5,none⟩ v5).setCell ⟨g,o+6,none⟩ v6).setCell ⟨g,o+7,none⟩ v7).setCell ⟨g,o+8,none⟩ v8).setCell ⟨g,o+9,none⟩ v9).setCell ⟨g,o+10,none⟩ v10=putR W g o v0 v1 v2 v3 v4 v5 v6 v7 v8 v9 v10:=rfl
theorem JV.put {w W:World} {g cap:Nat} {J:List Rv} {m:Nat} {r:Rv} (h:JV w (.slice (some ⟨g,0,none⟩) J.length cap) J W) (hm:m < J.length) (hl:OwnL w.heap.size r.2.1 r.1.d.labels W) (hc:OwnC w.heap.size r.2.2 r.1.cs W) (hd:∀ j (hj:j < J.length),j≠m→Ap J[j].2.1 r.2.1∧Ap J[j].2.2 r.2.2) :
  JV w (.slice (some ⟨g,0,none⟩) J.length cap) (J.set m r) (putR W g (m*11) (.int .i64 r.1.d.kind) (.string ⟨r.1.d.name.toArray⟩) (.string ⟨r.1.d.help.toArray⟩) r.2.1 (.int .i64 (hiOf r.1.t)) (.int .u64 (loOf r.1.t)) r.2.2 (.int .u64 (r.1.n:Int)) (.float .f64 r.1.sum) (.float .f64 r.1.mn) (.float .f64 r.1.mx)):=by
 obtain ⟨s0,_⟩:=h.g.own.stored (m*11) (.int .i64 r.1.d.kind)
 obtain ⟨s1,_⟩:=s0.stored (m*11+1) (.string ⟨r.1.d.name.toArray⟩)
 obtain ⟨s2,_⟩:=s1.stored (m*11+2) (.string ⟨r.1.d.help.toArray⟩)
 obtain ⟨s3,_⟩:=s2.stored (m*11+3) r.2.1
 obtain ⟨s4,_⟩:=s3.stored (m*11+4) (.int .i64 (hiOf r.1.t))
 obtain ⟨s5,_⟩:=s4.stored (m*11+5) (.int .u64 (loOf r.1.t))
 obtain ⟨s6,_⟩:=s5.stored (m*11+6) r.2.2
 obtain ⟨s7,_⟩:=s6.stored (m*11+7) (.int .u64 (r.1.n:Int))
 obtain ⟨s8,_⟩:=s7.stored (m*11+8) (.float .f64 r.1.sum)
 obtain ⟨s9,_⟩:=s8.stored (m*11+9) (.float .f64 r.1.mn)
 obtain ⟨s10,_⟩:=s9.stored (m*11+10) (.float .f64 r.1.mx)
 rw [flV_set J m r hm] at s10
 have hg:w.heap.size≤g:=by
  rcases own_atG h.g.own with k | ⟨g',k,k1,_⟩
  ·cases k
  ·cases k;exact k1
 have hne:∀ {e:TypeId} {n:Nat} {v:Value} {xs:List Value},W.ownsRow w.heap.size e 2 v n xs→e≠86→(putR W g (m*11) (.int .i64 r.1.d.kind) (.string ⟨r.1.d.name.toArray⟩) (.string ⟨r.1.d.help.toArray⟩) r.2.1 (.int .i64 (hiOf r.1.t)) (.int .u64 (loOf r.1.t)) r.2.2 (.int .u64 (r.1.n:Int)) (.float .f64 r.1.sum) (.float .f64 r.1.mn) (.float .f64 r.1.mx)).ownsRow w.heap.size e 2 v n xs:=fun {e n v xs} k ke=>by
  have hb:v.ownBlock≠some g:=by
   rcases own_apart k h.g.own ke with q | q
   ·rw [q];simp
   ·exact q
  unfold putR
  exact own_set (own_set (own_set (own_set (own_set (own_set (own_set (own_set (own_set (own_set (own_set k hb _) hb _) hb _) hb _) hb _) hb _) hb _) hb _) hb _) hb _) hb _
 refine ⟨⟨by rw [List.length_set];exact s10,?_,?_⟩,fun q hq=>?_,h.dj.set hd⟩
 ·unfold putR
  exact ((((((((((h.g.below.setCell (p:=⟨g,m*11,none⟩) hg _).setCell (p:=⟨g,m*11+1,none⟩) hg _).setCell (p:=⟨g,m*11+2,none⟩) hg _).setCell (p:=⟨g,m*11+3,none⟩) hg _).setCell (p:=⟨g,m*11+4,none⟩) hg _).setCell (p:=⟨g,m*11+5,none⟩) hg _).setCell (p:=⟨g,m*11+6,none⟩) hg _).setCell (p:=⟨g,m*11+7,none⟩) hg _).setCell (p:=⟨g,m*11+8,none⟩) hg _).setCell (p:=⟨g,m*11+9,none⟩) hg _).setCell (p:=⟨g,m*11+10,none⟩) hg _
 ·unfold putR
  simp only [World.setCell,Array.size_modify]
  exact h.g.size
 ·rcases List.mem_or_eq_of_mem_set hq with k | k
  ·exact ⟨hne (h.el q k).1 typesLV,hne (h.el q k).2 typesCV⟩
  ·subst k
   exact ⟨hne hl typesLV,hne hc typesCV⟩
end Go.Proofs.YtlgkfeeclgcgbaaGreatDoor
/- VALUES IN ORDER, THOSE OF ONE SERIES AS ONE: the walk. Own work of the verifier. -/
set_option maxRecDepth 100000
set_option maxHeartbeats 8000000
namespace Go.Proofs.YtlgkfeeclgcgbaaGreatDoor
open Go.RowKit Me
theorem wpList_val {w0 w:World} {ops:Array Oper} {rest:List Oper} {o:Oper} {a:Act} {Q:Exit→Act→World→Prop} (hgd:o.guard=none) (s x:Operand)
  (ho:o.op=.call { callee:=.builtin .append,args:=#[s,x],argTypes:=#[48,48] }) {v:Value} {J:List Rv} (hs:a.eval s=v) (hJ:JV w0 v J w) (hl:J.length≤1048576) (k:Nat) (hx:a.eval x=.slice (some ⟨k,0,none⟩) 1 1) (r:Rv) (h1:OwnL w0.heap.size r.2.1 r.1.d.labels w) (h2:OwnC w0.heap.size r.2.2 r.1.cs w) (hd:∀ x ∈ J,Ap x.2.1 r.2.1∧Ap x.2.2 r.2.2)
  (hk:w.heap[k]? =some (.cells (cl r).toArray 86 (0,0)))
  (h:∀ v' w',JV w0 v' (J++[r]) w'→wpList Tryz.prog ops Q rest (a.put o.dst v') w'):wpList Tryz.prog ops Q (o::rest) a w:=by
 obtain ⟨i0,hi,hz0,hz1,hz2⟩:=info_parts infoV
 have hz:Lz [r]:=by
  obtain ⟨_,_,_,e1,_⟩:=own_slice h1
  obtain ⟨_,_,_,e2,_⟩:=own_slice h2
  exact lz_one ⟨by rw [e1];rfl,by rw [e2];rfl⟩
 refine wpList_append_own w hgd s x _ ho w0.heap.size 86 i0 _ 11 136 Tryz.underlying48 hi hz0 hz1 hz2 rfl (by decide) v J.length (flV J) hs hJ.g.own ⟨k,0,none⟩ 1 1 (flV [r]) hx (by rw [flV_length];rfl) (World.news_of_block (by simpa [flV] using hk)) (flV_one _ hz) (by unfold maxLen;omega) (by omega) hJ.g.size ?_
 intro v' w' h3 h4 _
 exact h v' w' (hJ.push (Below.refl _ _) h1 h2 hd h3 h4)
theorem new_atd {W w':World} {o:Obj} (hb:Below (W.alloc o).drew.heap.size (W.alloc o).drew w'):w'.heap[W.heap.size]? =some o:=(hb.block _ (by show W.heap.size < (W.alloc o).heap.size;simp)).trans (new_1 W o)
theorem belS {a w:World} (j:Nat) (u:Value) (h:Below a.heap.size a w):Below a.heap.size a (w.setCell ⟨a.heap.size,j,none⟩ u):=h.setCell (p:=⟨a.heap.size,j,none⟩) (Nat.le_refl _) u
theorem belN {a w:World} (o:Obj) (h:Below a.heap.size a w):Below a.heap.size a (w.alloc o):=bt h (bel1 _ _)
theorem belD {a w:World} (h:Below a.heap.size a w):Below a.heap.size a w.drew:=bel_drewB h
theorem joinV_ok {x y:Vl} (h:(joinV x y).2=0):(joinV x y).1=jV x y:=by
 unfold joinV at h ⊢
 split
 ·rename_i k
  rw [if_pos k] at h
  exact absurd h (by decide)
 ·rename_i k
  rw [if_neg k] at h
  split
  ·rename_i k2
   rw [if_pos k2] at h
   exact absurd h (by decide)
  ·rfl
theorem map_set_last (J:List Rv) (q:Nat) (r:Rv) (hq:q+1=J.length):(J.set q r).map (·.1)=(J.map (·.1)).dropLast++[r.1]:=by
 rw [List.map_set]
 have hl:(J.map (·.1)).length=q+1:=by rw [List.length_map,hq]
 generalize J.map (·.1)=K at *
 have e:K=K.dropLast++[K[q]]:=by
  have hn:K≠[]:=fun e=>by rw [e] at hl;simp at hl
  have:=List.dropLast_concat_getLast hn
  rw [List.getLast_eq_getElem] at this
  simp only [hl,Nat.add_sub_cancel] at this
  exact this.symm
 have hd:K.dropLast.length=q:=by rw [List.length_dropLast,hl];omega
 conv=>lhs;rw [e]
 rw [List.set_append_right _ _ (by omega),hd,Nat.sub_self]
 rfl
def JoQ (w:World) (L:List Vl) (e:Ending) (w':World):Prop:=∃ u J,e=.returned (.tuple #[u,.int .i64 (jnL [] none L).2])∧Below w.heap.size w w'∧((jnL [] none L).2=0→JV w u J w'∧J.map (·.1)=(jnL [] none L).1)
structure Fit (x:Vl):Prop where
 w:VW x
 c:x.cs.length≤1048576
 l:x.d.labels.length≤1048576
 f:Re.finF x.sum=true
structure JN (w:World) (L:List Vl) (i:Nat) (v:Value) (J:List Rv) (W:World):Prop where
 jv:JV w v J W
 e:jnL (J.map (·.1)) (prvV L i) (L.drop i)=jnL [] none L
 fr:∀ h:i < L.length,0 < i→La.ordD (L[i - 1]'(by omega)).d L[i].d=0→(J.map (·.1)).getLast? =some (L[i - 1]'(by omega))
 n:J.length≤i
theorem prvV_pos (L:List Vl) (i:Nat) (h0:0 < i) (h:i≤L.length):prvV L i=some (L[i - 1]'(by omega)):=by
 have:=prvV_succ L (i - 1) (by omega)
 rw [show i - 1+1=i by omega] at this
 exact this
theorem jnL_fresh0 {J L:List Vl} (h:0 < L.length):jnL J (prvV L 0) (L.drop 0)=jnL (J++[L[0]]) (prvV L 1) (L.drop 1):=by
 rw [prvV_succ L 0 h,List.drop_eq_getElem_cons h]
 rfl
theorem jnL_fresh {J L:List Vl} {i:Nat} (h0:0 < i) (h:i < L.length) (hz:La.ordD (L[i - 1]'(by omega)).d L[i].d≠0):jnL J (prvV L i) (L.drop i)=jnL (J++[L[i]]) (prvV L (i+1)) (L.drop (i+1)):=by
 rw [prvV_pos L i h0 (by omega),prvV_succ L i h,List.drop_eq_getElem_cons h,jnL,if_pos hz]
theorem jnL_same {J L:List Vl} {i:Nat} (h0:0 < i) (h:i < L.length) (hz:La.ordD (L[i - 1]'(by omega)).d L[i].d=0):jnL J (prvV L i) (L.drop i)=if (joinV (L[i - 1]'(by omega)) L[i]).2≠0 then ([],(joinV (L[i - 1]'(by omega)) L[i]).2) else jnL (J.dropLast++[(joinV (L[i - 1]'(by omega)) L[i]).1]) (prvV L (i+1)) (L.drop (i+1)):=by
 rw [prvV_pos L i h0 (by omega),prvV_succ L i h,List.drop_eq_getElem_cons h,jnL,if_neg (by simpa using hz)]
theorem JN.fresh {w W W':World} {L:List Vl} {i:Nat} {v v':Value} {J:List Rv} {r:Rv} (h:JN w L i v J W) (hi:i < L.length) (hr:r.1=L[i]) (hj:JV w v' (J++[r]) W') (he:jnL (J.map (·.1)) (prvV L i) (L.drop i)=jnL (J.map (·.1)++[L[i]]) (prvV L (i+1)) (L.drop (i+1))):JN w L (i+1) v' (J++[r]) W':=by
 refine ⟨hj,?_,fun h2 _ _=>?_,by rw [List.length_append,List.length_singleton];have:=h.n;omega⟩
 ·rw [← h.e,he,List.map_append,List.map_singleton,hr]
 ·rw [List.map_append,List.map_singleton,List.getLast?_append]
  simp [hr]
theorem JN.joined {w W W':World} {L:List Vl} {i:Nat} {v v':Value} {J J':List Rv} (h:JN w L i v J W) (h0:0 < i) (hi:i < L.length) (n3:No3 L) (hz:La.ordD (L[i - 1]'(by omega)).d L[i].d=0) (hj:JV w v' J' W') (hJ:J'.map (·.1)=(J.map (·.1)).dropLast++[(joinV (L[i - 1]'(by omega)) L[i]).1]) (hl:J'.length=J.length) (he:(joinV (L[i - 1]'(by omega)) L[i]).2=0):JN w L (i+1) v' J' W':=by
 refine ⟨hj,?_,fun h2 _ k=>?_,by have:=h.n;omega⟩
 ·rw [← h.e,jnL_same h0 hi hz,if_neg (by simpa using he),hJ]
 ·exfalso
  have:=n3 (i - 1) (by omega)
  simp only [show i - 1+1=i by omega,show i - 1+2=i+1 by omega] at this
  exact this ⟨hz,by simpa using k⟩
theorem join_any (L:List Vl) (v:Value) (w:World) (hv:SV w v L) (hL:L.length≤512) (hf:∀ x ∈ L,Fit x) (n3:No3 L) :
  Calls Tryz.prog 303 #[v] w fun e w'=>JoQ w L e w':=by
 obtain ⟨i0,hi0,hz0,hz1,hz2⟩:=info_parts infoV
 obtain ⟨ao,b,o,cap,rfl,hao,hcap,hcap2,hr⟩:=hv.open
 have HR:=hid_of hr
 have HF:=hid_of hf
 have HN3:=hid_of n3
 have HJ0:Hid (JN w L 0 (.slice none 0 0) [] w):=⟨JV.nil w,rfl,fun _ h=>absurd h (by omega),by simp⟩
 clear hv hr hf n3
 go_enter Tryz.func303,Tryz.ntmps303
 go_upto_region 3 with fail
 go_loopw [4,12] (fun u x W=>∃ (i:Nat) (J:List Rv),i≤L.length∧x=.int .i64 (i:Int)∧Hid (JN w L i u J W)) (fun _ x _=>L.length - (intOf x).toNat)
 case atStart=>exact ⟨0,[],by omega,rfl,HJ0⟩
 case round =>
  clear HJ0
  obtain ⟨i,J,hi,rfl,HJ⟩:=hrel
  by_cases hlt:i < L.length
  ·have hlt':(i:Int) < (L.length:Int):=by omega
   obtain rfl:=hao (by intro e;rw [e] at hlt;simp at hlt)
   have HRw:=hid_of (HR.out.below HJ.out.jv.g.below)
   obtain ⟨lw,cw,g1,g2,g3⟩:=HRw.out i hlt
   obtain ⟨lwa,lwc,rfl⟩:=g2.form
   obtain ⟨cwa,cwc,rfl⟩:=g3.form
   have hix:=index_val b o L.length cap i (i:Int) rfl hlt
   have hfit:=HF.out _ (List.getElem_mem hlt)
   have HKn:Hid (KV wr wr.heap.size L[i] (.slice lwa L[i].d.labels.length lwc) (.slice cwa L[i].cs.length cwc) (wr.alloc (.cells (vc L[i] (.slice lwa L[i].d.labels.length lwc) (.slice cwa L[i].cs.length cwc)) 86))):=KV.new g2 g3 _
   have hcC:=g1.cC
   obtain ⟨r0,r1,r2,r3,r4,r5,r6,r7,r8,r9,r10⟩:=hcC
   have sF:=store_f
   clear g1 g2 g3
   go_upto_region 5 with fail
   clear r0 r1 r2 r3 r4 r5 r6 r7 r8 r9 r10 sF
   obtain ⟨w6,hw6⟩:∃ w6,wr.alloc (.cells (vc L[i] (.slice lwa L[i].d.labels.length lwc) (.slice cwa L[i].cs.length cwc)) 86)=w6:=⟨_,rfl⟩
   rw [hw6] at HKn
   simp only [vc] at hw6
   rw [hw6]
   clear hw6
   by_cases h0:i=0
   ·have hi':((i:Int) == 0)=true:=by rw [beq_iff_eq];omega
    have H0:=hid_of h0
    clear h0
    go_cut [28] from 17 to 27 (fun v W=>v=.bool true∧Hid (KV wr wr.heap.size L[i] (.slice lwa L[i].d.labels.length lwc) (.slice cwa L[i].cs.length cwc) W))
    case first =>
     go_quiet (fail)
     go_wp2_with fail
     go_meet
     exact ⟨rfl,HKn.out.below (bel_drewNB (Below.refl _ _) nq)⟩
    case rest =>
    obtain ⟨rfl,HKc⟩:=hcut
    have HFr:Hid (jnL (J.map (·.1)) (prvV L i) (L.drop i)=jnL (J.map (·.1)++[L[i]]) (prvV L (i+1)) (L.drop (i+1))):=by have:=H0.out;subst this;exact jnL_fresh0 hlt
    have HCp:Hid (∀ _:Unit,_):=fun _=>copied_any L[i] (vx L[i] (.slice lwa L[i].d.labels.length lwc) (.slice cwa L[i].cs.length cwc)) wc HKc.out.at hfit.l hfit.c
    have HJc:=hid_of (HJ.out.jv.keep HKc.out.bl)
    have HNl:=hid_of HJ.out.n
    have HSz:Hid (w.heap.size≤wc.heap.size):=(HJ.out.jv.keep HKc.out.bl).g.size
    obtain ⟨k0,k1,k2,k3,k4,k5,k6,k7,k8,k9,k10⟩:=HKc.out.box
    go_wp2_with (first
     | (go_at_call 290;refine (HCp.out ()).mono ?_;rintro e w7 ⟨lv7,cv7,rfl,hl7,hc7,hb7⟩;obtain ⟨la7,lb7,lc7,rfl,-⟩:=own_slice hl7;obtain ⟨ca7,cb7,cc7,rfl,-⟩:=own_slice hc7)
     | (at_builtin;refine wpList_val rfl _ _ rfl rfl ((HJc.out.keep hb7).keep (bel1 _ _)) (by have:=HNl.out;omega) _ rfl (L[i],.slice la7 L[i].d.labels.length lc7,.slice ca7 L[i].cs.length cc7) (own_belG (own_leG hl7 HSz.out) (bel1 _ _)) (own_belG (own_leG hc7 HSz.out) (bel1 _ _)) (fun x hx=>⟨ap_of (HJc.out.el x hx).1 hl7,ap_of (HJc.out.el x hx).2 hc7⟩) (new_1 _ _) ?_;intro v8 w8 hJ8))
    exact ⟨⟨i+1,_,by omega,by go_num,HJ.out.fresh hlt rfl hJ8 HFr.out⟩,by simp [intOf];omega⟩
   ·obtain ⟨m,hm⟩:∃ m,m+1=i:=⟨i - 1,by omega⟩
    have hml:m < L.length:=by omega
    have hi':((i:Int) == 0)=false:=by rw [beq_eq_false_iff_ne];omega
    have hw1:IntKind.i64.wrap ((i:Int) - 1)=(m:Int):=by rw [IntKind.wrap_i64];omega
    have hixm:=index_val b o L.length cap m (m:Int) rfl hml
    obtain ⟨lm,cm,m1,m2,m3⟩:=HRw.out m hml
    have HKm:=hid_of (⟨m1,m2,m3⟩:KR b (o+m*11) L[m] lm cm wr)
    have hS0:S8h wr b (o+m*11) wr.heap.size L[i] L[m] (.slice lwa L[i].d.labels.length lwc) (.slice cwa L[i].cs.length cwc) lm cm w6:=s8_of HKn.out (HKm.out.below HKn.out.bl)
    have HC:Hid (∀ W,S8h wr b (o+m*11) wr.heap.size L[i] L[m] (.slice lwa L[i].d.labels.length lwc) (.slice cwa L[i].cs.length cwc) lm cm W→Calls Tryz.prog 69 #[vx L[m] lm cm,vx L[i] (.slice lwa L[i].d.labels.length lwc) (.slice cwa L[i].cs.length cwc)] W fun e w'=>e=.returned (.int .i64 (La.ordD L[m].d L[i].d))∧Below W.heap.size W w'):=fun W k=>cser_any L[m] L[i] _ _ W k.2.2.2.at k.2.2.1.at
    obtain ⟨z,hz⟩:∃ z,La.ordD L[m].d L[i].d=z:=⟨_,rfl⟩
    rw [hz] at HC
    have HZ:=hid_of hz
    have HM:=hid_of hm
    clear hz hm m1 m2 m3 h0
    go_cut [28] from 17 to 27 (fun v W=>v=.bool (z != 0)∧Hid (KV wr wr.heap.size L[i] (.slice lwa L[i].d.labels.length lwc) (.slice cwa L[i].cs.length cwc) W))
    case first =>
     go_region_held3 (fun W=>S8h wr b (o+m*11) wr.heap.size L[i] L[m] (.slice lwa L[i].d.labels.length lwc) (.slice cwa L[i].cs.length cwc) lm cm W)
      (first | assumption | exact keep8 (by assumption) (by assumption) | exact keep8 (drew_bel _) hS0)
      (first
       | (go_at_call 69;with_reducible refine (HC.out _ (by first | assumption | exact keep8 (by assumption) (by assumption) | exact keep8 (drew_bel _) hS0)).mono ?_;rintro e w3 ⟨rfl,hb3⟩))
     rename_i hS3
     go_wp2_with fail
     go_meet
     exact ⟨rfl,hS3.2.2.1⟩
    case rest =>
    clear HC hS0 HKn HKm
    by_cases hz0':z=0
    ·have hzb:(z != 0)=false:=by simpa using hz0'
     rw [hzb] at hcut
     obtain ⟨rfl,HKc⟩:=hcut
     have HOr:Hid (0 < i∧La.ordD (L[i - 1]'(by omega)).d L[i].d=0∧(J.map (·.1)).getLast? =some L[m]):=by
      have e1:=HM.out
      have e2:=HZ.out
      subst e1
      have e3:La.ordD (L[m+1 - 1]'(by omega)).d L[m+1].d=0:=by simpa [hz0'] using e2
      exact ⟨by omega,e3,by simpa using HJ.out.fr hlt (by omega) e3⟩
     have HJc:=hid_of (HJ.out.jv.keep HKc.out.bl)
     clear hzb hz0'
     obtain ⟨q,hq⟩:∃ q,q+1=J.length:=by
      have:=HOr.out.2.2
      rcases J with _ | ⟨r,J⟩
      ·simp at this
      ·exact ⟨J.length,rfl⟩
     have hql:q < J.length:=by omega
     have hJq:J[q].1=L[m]:=by
      have:=HOr.out.2.2
      rw [List.getLast?_eq_getElem?,List.length_map,show J.length - 1=q by omega,List.getElem?_map,List.getElem?_eq_getElem hql] at this
      simpa using this
     obtain ⟨ua,ug,ucap,rfl,huo,huc,huc2⟩:=own_slice HJc.out.g.own
     obtain rfl:=huo (by omega)
     have hwq:IntKind.i64.wrap ((J.length:Int) - 1)=(q:Int):=by have:=HJ.out.n;rw [IntKind.wrap_i64];omega
     have hixq:∀ W,(Instr.indexAt 48 (.slice (some ⟨ug,0,none⟩) J.length ucap) (.int .i64 (q:Int))).run Tryz.prog W=.ok (.pointer (some ⟨ug,q*11,none⟩)) W:=fun W=>by simpa using index_val ug 0 J.length ucap q (q:Int) rfl hql W
     have hrq:=own_row HJc.out.g.own rfl q hql
     obtain ⟨hol,hoc⟩:=HJc.out.el J[q] (List.getElem_mem hql)
     have HLc:=hid_of hol
     obtain ⟨lja,ljb,ljc,hlj,-⟩:=own_slice hol
     obtain ⟨cja,cjb,cjc,hcj,-⟩:=own_slice hoc
     rw [hJq] at hrq hol hoc hlj hcj HLc
     rw [hlj] at hrq hol HLc
     rw [hcj] at hrq hoc
     rw [Nat.zero_add] at hrq
     have hKR:KR ug (q*11) L[m] (.slice lja L[m].d.labels.length ljc) (.slice cja L[m].cs.length cjc) wc:=⟨hrq,hol.slb,hoc.sn HJc.out.g.size⟩
     have hS0:S8h wr ug (q*11) wr.heap.size L[i] L[m] (.slice lwa L[i].d.labels.length lwc) (.slice cwa L[i].cs.length cwc) (.slice lja L[m].d.labels.length ljc) (.slice cja L[m].cs.length cjc) wc:=s8_of HKc.out hKR
     have HJt:Hid (∀ W,S8h wr ug (q*11) wr.heap.size L[i] L[m] (.slice lwa L[i].d.labels.length lwc) (.slice cwa L[i].cs.length cwc) (.slice lja L[m].d.labels.length ljc) (.slice cja L[m].cs.length cjc) W→Calls Tryz.prog 309 #[vx L[m] (.slice lja L[m].d.labels.length ljc) (.slice cja L[m].cs.length cjc),vx L[i] (.slice lwa L[i].d.labels.length lwc) (.slice cwa L[i].cs.length cwc)] W fun e w'=>JnQ W L[m] L[i] (.slice lja L[m].d.labels.length ljc) e w'):=fun W k=>by
      have f1:=HF.out _ (List.getElem_mem hml)
      have f2:=HF.out _ (List.getElem_mem hlt)
      exact joinTwo_any L[m] L[i] _ _ f1.w f2.w W lja ljc (.slice cja L[m].cs.length cjc) rfl k.2.2.2.n k.2.2.1.at f1.c f2.c f1.f f2.f
     have HLj:=hid_of hlj
     clear hrq hol hoc hlj hcj hKR hJq
     go_upto_region 8 with fail
     have HSw:Hid (w.heap.size≤wc.heap.size):=HJc.out.g.size
     have sF:=store_f
     go_cut [8,9] from 39 to 46 (fun v9 v10 W=>∃ b9 a1 n1 c1 a2 n2 c2,v9=.pointer (some ⟨b9,0,none⟩)∧v10=.int .i64 (joinV L[m] L[i]).2∧Hid (W.heap[b9]? =some (.cells (vc (joinV L[m] L[i]).1 (.slice a1 n1 c1) (.slice a2 n2 c2)) 86 (0,0)))∧Hid ((joinV L[m] L[i]).2=0→.slice a1 n1 c1=(Value.slice lja L[m].d.labels.length ljc)∧OwnC wc.heap.size (.slice a2 n2 c2) (joinV L[m] L[i]).1.cs W)∧Hid (Below wc.heap.size wc W))
     case first =>
      clear HJ HF HR HRw HN3 HJc HLc HLj HOr HM HZ hfit hix hixm hixq hwq hw1 hi' hq hql huc huc2 hi0 hz0 hz1 hz2 hcap hcap2 HKc hL
      obtain ⟨xi,hxi⟩:∃ xi,L[i]=xi:=⟨_,rfl⟩
      obtain ⟨xm,hxm⟩:∃ xm,L[m]=xm:=⟨_,rfl⟩
      simp only [hxi,hxm] at *
      clear hxi hxm
      have HKp:Hid (∀ W1,Below wc.heap.size wc W1→S8h wr ug (q*11) wr.heap.size xi xm (.slice lwa xi.d.labels.length lwc) (.slice cwa xi.cs.length cwc) (.slice lja xm.d.labels.length ljc) (.slice cja xm.cs.length cjc) W1):=fun W1 hb=>keep8 hb hS0
      clear hS0
      go_region_held3 (fun W=>S8h wr ug (q*11) wr.heap.size xi xm (.slice lwa xi.d.labels.length lwc) (.slice cwa xi.cs.length cwc) (.slice lja xm.d.labels.length ljc) (.slice cja xm.cs.length cjc) W)
       (((with_reducible refine HKp.out _ ?_);repeat (first | with_reducible exact hB9 | with_reducible exact Below.refl _ _ | with_reducible refine belD ?_ | with_reducible refine belN _ ?_ | with_reducible refine belS _ _ ?_)))
       (first
        | (go_at_call 309;(with_reducible refine (HJt.out _ (HKp.out _ (by repeat (first | with_reducible exact Below.refl _ _ | with_reducible refine belD ?_ | with_reducible refine belN _ ?_)))).mono ?_);rintro e w9 ⟨a1,n1,c1,a2,n2,c2,rfl,hz9,hb9⟩;have hB9:Below wc.heap.size wc w9:=bt (by repeat (first | with_reducible exact Below.refl _ _ | with_reducible refine belD ?_ | with_reducible refine belN _ ?_)) hb9;(try (have hN9:Hid (w9.heap[wc.heap.size]? =some (.cells zc 86 (0,0))):=hid_of (by first | (with_reducible exact new_atd hb9) | (with_reducible exact hkN (new_1 wc.drew _) hb9));obtain ⟨y0,y1,y2,y3,y4,y5,y6,y7,y8,y9,y10⟩:=eleven_cells hN9;obtain ⟨e0,e1,e2,e3,e4,e5,e6,e7,e8,e9,e10⟩:=eleven_fr hN9))))
      ·go_wp2_with fail
       go_meet
       exact ⟨w9.heap.size,a1,n1,c1,a2,n2,c2,rfl,rfl,new_1 _ _,fun k=>⟨(hz9 k).1,own_belG (own_leG (hz9 k).2 (Nat.le_refl _)) (bel1 _ _)⟩,belN _ hB9⟩
      ·go_wp2_with fail
       go_meet
       refine ⟨wc.heap.size,a1,n1,c1,a2,n2,c2,rfl,rfl,?_,fun k=>⟨(hz9 k).1,?_⟩,?_⟩
       ·exact set_eleven hN9.out
       ·have h9:=(hz9 k).2
        exact own_leG (own_put11 h9 (own_ne h9 (by show wc.heap.size < (wc.alloc _).heap.size;simp)) _ _ _ _ _ _ _ _ _ _ _) (by show wc.heap.size≤(wc.alloc _).heap.size;simp)
       ·exact put11_bel hB9 (Nat.le_refl _) _ _ _ _ _ _ _ _ _ _ _
     case rest =>
     obtain ⟨b9,a1,n1,c1,a2,n2,c2,rfl,rfl,HB9,HZ9,HBw⟩:=hcut
     have HJ9:=hid_of (HJc.out.keep HBw.out)
     have HL9:=hid_of (own_belG HLc.out HBw.out)
     have HEr:Hid ((joinV L[m] L[i]).2≠0→jnL [] none L=([],(joinV L[m] L[i]).2)):=fun hne=>by
      have e1:=HM.out
      subst e1
      have:=HJ.out.e
      have h2:=jnL_same (J:=J.map (·.1)) (by omega) hlt HOr.out.2.1
      simp only [Nat.add_sub_cancel] at h2
      rw [h2,if_pos hne] at this
      exact this.symm
     obtain ⟨er,her⟩:∃ er,(joinV L[m] L[i]).2=er:=⟨_,rfl⟩
     have Her:=hid_of her
     rw [her] at HZ9 HEr ⊢
     clear her hS0 HJt HKc
     by_cases he0:er=0
     ·have he0':(er != 0)=false:=by simpa using he0
      obtain ⟨hz1',hz2'⟩:=HZ9.out he0
      have Hj0:Hid ((joinV L[m] L[i]).2=0):=by unfold Hid;rw [Her.out,he0]
      have hd:(joinV L[m] L[i]).1.d=L[m].d:=by rw [joinV_ok Hj0.out];rfl
      have hl9:OwnL w.heap.size (.slice a1 n1 c1) (joinV L[m] L[i]).1.d.labels wc:=by rw [hz1',hd];exact HL9.out
      have HPut:=hid_of (HJ9.out.put (m:=q) (r:=((joinV L[m] L[i]).1,.slice a1 n1 c1,.slice a2 n2 c2)) hql hl9 (own_leG hz2' HSw.out) (fun j hj hne=>⟨by show Ap J[j].2.1 (.slice a1 n1 c1);rw [hz1',← HLj.out];exact (HJ9.out.dj j q hj hql hne).1,ap_of (HJc.out.el _ (List.getElem_mem hj)).2 hz2'⟩))
      obtain ⟨k0,k1,k2,k3,k4,k5,k6,k7,k8,k9,k10⟩:=eleven_cells HB9
      have hrq:=(own_row HJ9.out.g.own rfl q hql)
      rw [Nat.zero_add] at hrq
      obtain ⟨r0,r1,r2,r3,r4,r5,r6,r7,r8,r9,r10⟩:=hrq.cC
      have hfz:∀ j,wc.frozen? ⟨ug,j,none⟩=false:=fun j=>HJ9.out.g.own.frozenAt j
      have f0:=hfz (q*11)
      have f1:=hfz (q*11+1)
      have f2:=hfz (q*11+2)
      have f3:=hfz (q*11+3)
      have f4:=hfz (q*11+4)
      have f5:=hfz (q*11+5)
      have f6:=hfz (q*11+6)
      have f7:=hfz (q*11+7)
      have f8:=hfz (q*11+8)
      have f9:=hfz (q*11+9)
      have f10:=hfz (q*11+10)
      clear hfz hrq hl9 hd hz1' hz2' HEr HL9 HLc HJc he0 HZ9
      go_wp2_with fail
      rw [putR_eq]
      refine ⟨⟨i+1,J.set q ((joinV L[m] L[i]).1,.slice a1 n1 c1,.slice a2 n2 c2),by omega,by go_num,?_⟩,by simp [intOf];omega⟩
      have hi1:=HM.out
      subst hi1
      exact HJ.out.joined (by omega) hlt HN3.out HOr.out.2.1 HPut.out (map_set_last J q _ hq) (List.length_set) Hj0.out
     ·have he0':(er != 0)=true:=by simpa using he0
      have HE:=hid_of (HEr.out he0)
      have HBl:Hid (Below w.heap.size w wc):=HJ9.out.g.below
      clear HEr HZ9 HL9 HLc HJ9 HJc HB9 he0
      go_wp2_with fail
      go_ret2
      exact ⟨_,[],by rw [HE.out];rfl,HBl.out,fun k=>by rw [HE.out] at k;simp at k;rw [k] at he0';cases he0'⟩
    ·have hzb:(z != 0)=true:=by simpa using hz0'
     rw [hzb] at hcut
     obtain ⟨rfl,HKc⟩:=hcut
     have HFr:Hid (jnL (J.map (·.1)) (prvV L i) (L.drop i)=jnL (J.map (·.1)++[L[i]]) (prvV L (i+1)) (L.drop (i+1))):=by have:=HM.out;have hz':=HZ.out;subst this;exact jnL_fresh (by omega) hlt (by simpa [hz'] using hz0')
     have HCp:Hid (∀ _:Unit,_):=fun _=>copied_any L[i] (vx L[i] (.slice lwa L[i].d.labels.length lwc) (.slice cwa L[i].cs.length cwc)) wc HKc.out.at hfit.l hfit.c
     have HJc:=hid_of (HJ.out.jv.keep HKc.out.bl)
     have HNl:=hid_of HJ.out.n
     have HSz:Hid (w.heap.size≤wc.heap.size):=(HJ.out.jv.keep HKc.out.bl).g.size
     obtain ⟨k0,k1,k2,k3,k4,k5,k6,k7,k8,k9,k10⟩:=HKc.out.box
     go_wp2_with (first
      | (go_at_call 290;refine (HCp.out ()).mono ?_;rintro e w7 ⟨lv7,cv7,rfl,hl7,hc7,hb7⟩;obtain ⟨la7,lb7,lc7,rfl,-⟩:=own_slice hl7;obtain ⟨ca7,cb7,cc7,rfl,-⟩:=own_slice hc7)
      | (at_builtin;refine wpList_val rfl _ _ rfl rfl ((HJc.out.keep hb7).keep (bel1 _ _)) (by have:=HNl.out;omega) _ rfl (L[i],.slice la7 L[i].d.labels.length lc7,.slice ca7 L[i].cs.length cc7) (own_belG (own_leG hl7 HSz.out) (bel1 _ _)) (own_belG (own_leG hc7 HSz.out) (bel1 _ _)) (fun x hx=>⟨ap_of (HJc.out.el x hx).1 hl7,ap_of (HJc.out.el x hx).2 hc7⟩) (new_1 _ _) ?_;intro v8 w8 hJ8))
     exact ⟨⟨i+1,_,by omega,by go_num,HJ.out.fresh hlt rfl hJ8 HFr.out⟩,by simp [intOf];omega⟩
  ·have hlt':¬ (i:Int) < (L.length:Int):=by omega
   have HE:Hid (jnL [] none L=(J.map (·.1),0)):=by
    have:=HJ.out.e
    rw [List.drop_eq_nil_of_le (by omega)] at this
    rw [← this]
    cases prvV L i <;> rfl
   have HV:=hid_of HJ.out.jv
   clear HJ HR HF HN3
   go_wp2_with fail
   go_ret2
   exact ⟨_,J,by rw [HE.out];rfl,HV.out.g.below,fun _=>⟨HV.out,by rw [HE.out]⟩⟩
end Go.Proofs.YtlgkfeeclgcgbaaGreatDoor
