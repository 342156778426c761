/- ROWS OF VALUES that grow. Own work of the verifier. -/
import Derived.Test.YtlgkfeeclgcgbaaGreatDoorZBB
import Derived.Test.YtlgkfeeclgcgbaaGreatDoorZAD
import Derived.Deep.AppendLies
import Derived.Lib.AppendZeros
namespace Go.Proofs.YtlgkfeeclgcgbaaGreatDoor
open Go.RowKit Me
abbrev Rv:Type:=Vl × Value × Value
abbrev cl (r:Rv):List Value:=[.int .i64 r.1.d.kind,.string ⟨r.1.d.name.toArray⟩,.string ⟨r.1.d.help.toArray⟩,r.2.1,.int .i64 (hiOf r.1.t),.int .u64 (loOf r.1.t),r.2.2,.int .u64 (r.1.n:Int),.float .f64 r.1.sum,.float .f64 r.1.mn,.float .f64 r.1.mx]
def flV:List Rv→List Value
 | []=>[]
 | r::L=>cl r++flV L
theorem flV_length (L:List Rv):(flV L).length=L.length*11:=by
 induction L with
 | nil=>rfl
 | cons c L ih=>simp only [flV,List.length_append,List.length_cons,ih,List.length_nil];omega
theorem flV_append (A B:List Rv):flV (A++B)=flV A++flV B:=by
 induction A with
 | nil=>rfl
 | cons c A ih=>simp only [List.cons_append,flV,ih,List.append_assoc]
theorem flV_get (L:List Rv) (i j:Nat) (h:i < L.length) (hj:j < 11):(flV L)[i*11+j]? =(cl L[i])[j]?:=by
 induction L generalizing i with
 | nil=>simp at h
 | cons c L ih =>
  cases i with
  | zero =>
   rw [flV,List.getElem?_append_left (by simp;omega)]
   simp
  | succ i =>
   rw [flV,List.getElem?_append_right (by simp;omega)]
   have:=ih i (by simpa using h)
   rw [show (i+1)*11+j - (cl c).length=i*11+j by simp;omega]
   exact this
def Lz (R:List Rv):Prop:=∀ r ∈ R,r.2.1.oneCell'=true∧r.2.2.oneCell'=true
theorem flV_one (L:List Rv) (hz:Lz L):∀ u ∈ flV L,u.oneCell'=true:=by
 induction L with
 | nil=>intro u hu;cases hu
 | cons c L ih =>
  intro u hu
  simp only [flV,List.mem_append] at hu
  rcases hu with hu | hu
  ·obtain ⟨h1,h2⟩:=hz c List.mem_cons_self
   simp only [cl,List.mem_cons,List.not_mem_nil,or_false] at hu
   rcases hu with rfl | rfl | rfl | rfl | rfl | rfl | rfl | rfl | rfl | rfl | rfl <;> first | rfl | exact h1 | exact h2
  ·exact ih (fun r hr=>hz r (List.mem_cons_of_mem _ hr)) u hu
def RowR (W:World) (b o:Nat) (R:List Rv):Prop:=∀ i (h:i < R.length),C11 W b (o+i*11) R[i].1 R[i].2.1 R[i].2.2
def Ls (W:World) (R:List Rv):Prop:=∀ r ∈ R,SLb W r.2.1 r.1.d.labels∧SN W r.2.2 r.1.cs
theorem RowR.below {W W1:World} {b o:Nat} {R:List Rv} (h:RowR W b o R) (hb:Below W.heap.size W W1):RowR W1 b o R:=fun i hi=>(h i hi).below hb
theorem Ls.lz {W:World} {R:List Rv} (h:Ls W R):Lz R:=fun r hr=>by
 obtain ⟨h1,h2⟩:=h r hr
 obtain ⟨_,_,e1⟩:=h1.form
 obtain ⟨_,_,e2⟩:=h2.form
 exact ⟨by rw [e1];rfl,by rw [e2];rfl⟩
theorem RowV.raw {W:World} {b o:Nat} {L:List Vl} (h:RowV W b o L):∃ R:List Rv,R.map (·.1)=L∧RowR W b o R∧Ls W R:=by
 have h':∀ i:Fin L.length,∃ q:Value × Value,C11 W b (o+i.val*11) L[i.val] q.1 q.2∧SLb W q.1 L[i.val].d.labels∧SN W q.2 L[i.val].cs:=fun i=>by
  obtain ⟨lv,cv,h1,h2,h3⟩:=h i.val i.isLt
  exact ⟨(lv,cv),h1,h2,h3⟩
 obtain ⟨f,hf⟩:=Classical.axiomOfChoice h'
 refine ⟨List.ofFn (fun i:Fin L.length=>(L[i.val],f i)),?_,?_,?_⟩
 ·apply List.ext_getElem
  ·simp
  ·intro i h1 h2
   simp
 ·intro i hi
  have hi':i < L.length:=by simpa using hi
  have:=(hf ⟨i,hi'⟩).1
  simpa using this
 ·intro r hr
  obtain ⟨i,rfl⟩:=(List.mem_ofFn).1 hr
  exact (hf i).2
theorem RowR.row {W:World} {b o:Nat} {R:List Rv} (h:RowR W b o R) (k:Ls W R):RowV W b o (R.map (·.1)):=fun i hi=>by
 have hi':i < R.length:=by simpa using hi
 refine ⟨R[i].2.1,R[i].2.2,?_,?_⟩
 ·have:=h i hi'
  simpa using this
 ·have:=k R[i] (List.getElem_mem hi')
  simpa using this
theorem RowR.cells {w:World} {b o:Nat} {R:List Rv} (h:RowR w b o R) (j:Nat) (u:Value) (hu:(flV R)[j]? =some u):w.cell? ((⟨b,o,none⟩:Addr).add j)=some u:=by
 have hj:j < (flV R).length:=by
  rcases Nat.lt_or_ge j (flV R).length with c | c
  ·exact c
  ·rw [List.getElem?_eq_none c] at hu;cases hu
 rw [flV_length] at hj
 have hi:j / 11 < R.length:=by omega
 have hm:j % 11 < 11:=by omega
 have e:=flV_get R (j / 11) (j % 11) hi hm
 rw [show j / 11*11+j % 11=j by omega,hu] at e
 have hr:=h (j / 11) hi
 have ej:o+j=o+j / 11*11+j % 11:=by omega
 rw [Addr.add_lit,ej]
 generalize j % 11=q at *
 match q,hm with
 | 0,_=>simp only [cl] at e;simp at e;rw [e];simpa using hr.c0
 | 1,_=>simp only [cl] at e;simp at e;rw [e];exact hr.c1
 | 2,_=>simp only [cl] at e;simp at e;rw [e];exact hr.c2
 | 3,_=>simp only [cl] at e;simp at e;rw [e];exact hr.c3
 | 4,_=>simp only [cl] at e;simp at e;rw [e];exact hr.c4
 | 5,_=>simp only [cl] at e;simp at e;rw [e];exact hr.c5
 | 6,_=>simp only [cl] at e;simp at e;rw [e];exact hr.c6
 | 7,_=>simp only [cl] at e;simp at e;rw [e];exact hr.c7
 | 8,_=>simp only [cl] at e;simp at e;rw [e];exact hr.c8
 | 9,_=>simp only [cl] at e;simp at e;rw [e];exact hr.c9
 | 10,_=>simp only [cl] at e;simp at e;rw [e];exact hr.c10
theorem own_row {W:World} {B g n cap:Nat} {R:List Rv} (h:W.ownsRow B 86 11 (.slice (some ⟨g,0,none⟩) n cap) n (flV R)) (hn:n=R.length):RowR W g 0 R:=fun i hi=>by
 subst hn
 have key:∀ j,j < 11→W.cell? ⟨g,0+i*11+j,none⟩=(cl R[i])[j]?:=fun j hj=>by
  have:=h.cellAt (i*11+j) (by omega)
  rw [show 0+i*11+j=i*11+j by omega,this]
  exact flV_get R i j hi hj
 exact ⟨key 0 (by omega),key 1 (by omega),key 2 (by omega),key 3 (by omega),key 4 (by omega),key 5 (by omega),key 6 (by omega),key 7 (by omega),key 8 (by omega),key 9 (by omega),key 10 (by omega)⟩
structure GV (B:Nat) (W0:World) (v:Value) (R:List Rv) (w:World):Prop where
 own:w.ownsRow B 86 11 v R.length (flV R)
 below:Below B W0 w
 size:B≤w.heap.size
theorem GV.nil {W0 w:World} {B:Nat} (hb:Below B W0 w) (hs:B≤w.heap.size):GV B W0 (.slice none 0 0) [] w:=⟨World.ownsRow_nil _ _ _ _,hb,hs⟩
theorem GV.keep {B:Nat} {W0 w w':World} {v:Value} {xs:List Rv} (h:GV B W0 v xs w) (hb:Below w.heap.size w w'):GV B W0 v xs w':=⟨own_belG h.own hb,h.below.trans (hb.mono h.size),by have:=hb.size;have:=h.size;omega⟩
theorem GV.grow {B:Nat} {W0 w w1 w':World} {v v':Value} {xs ys:List Rv} (h:GV B W0 v xs w) (hb:Below B W0 w1) (hs:B≤w1.heap.size) (hown:w'.ownsRow B 86 11 v' (xs.length+ys.length) (flV xs++flV ys)) (hg:w1.grownBy w' v.ownBlock):GV B W0 v' (xs++ys) w':=by
 refine ⟨by rw [List.length_append,flV_append];exact hown,?_,by have:=hg.size;omega⟩
 refine hb.grown hg hs (fun k e=>?_)
 rcases h.own.2 with ⟨rfl,_⟩ | ⟨g,cap,cur,rfl,hB,_⟩
 ·cases e
 ·cases e;exact hB
theorem own_slice {W:World} {B:Nat} {e:TypeId} {s n:Nat} {v:Value} {xs:List Value} (h:W.ownsRow B e s v n xs):∃ ao g cap,v=.slice ao n cap∧(0 < n→ao=some ⟨g,0,none⟩)∧n≤cap∧cap≤9223372036854775807:=by
 rcases h.2 with ⟨q,q2⟩ | ⟨g,cap,cur,q,_,_,h3,h4,_⟩
 ·exact ⟨none,0,0,by rw [q,q2],fun k=>by omega,by omega,by omega⟩
 ·exact ⟨_,g,cap,q,fun _=>rfl,h3,by unfold maxLen at h4;omega⟩
theorem GV.sv {B:Nat} {W0 w:World} {v:Value} {R:List Rv} (h:GV B W0 v R w) (hl:Ls w R):SV w v (R.map (·.1)):=by
 rcases h.own.2 with ⟨q,q2⟩ | ⟨g,cap,cur,q,_,_,h3,h4,_⟩
 ·have:R=[]:=List.length_eq_zero_iff.1 q2
  subst this
  exact Or.inl ⟨q,rfl⟩
 ·subst q
  refine Or.inr ⟨g,0,cap,by simp,by simpa using h3,by unfold maxLen at h4;omega,(own_row h.own rfl).row hl⟩
theorem step_val {w:World} {ops:Array Oper} {o:Oper} {a:Act} {K:Act→World→Prop} {Q:Exit→Act→World→Prop} {E:Prop} (hgd:o.guard=none) (s x:Operand)
  (ho:o.op=.call { callee:=.builtin .append,args:=#[s,x],argTypes:=#[48,48] }) {B:Nat} {W0:World} {v:Value} {R:List Rv} (hs:a.eval s=v) (hG:GV B W0 v R w) (hl:R.length≤1048576) (k:Nat) (hx:a.eval x=.slice (some ⟨k,0,none⟩) 1 1) (r:Rv) (hr:Lz [r])
  (hk:w.heap[k]? =some (.cells (cl r).toArray 86 (0,0)))
  (hh:∀ v' w',GV B W0 v' (R++[r]) w'→K (a.put o.dst v') w') :
  if Region.wanted o (yielded ops a.tmps)=true then Oper.wp Tryz.prog o a w K Q else E:=by
 obtain ⟨i0,hi,hz0,hz1,hz2⟩:=info_parts infoV
 refine step_append_lies w hgd s x _ ho B 86 i0 (.agg #[.int .i64 0,.string ⟨#[]⟩,.string ⟨#[]⟩,.slice none 0 0,.int .i64 0,.int .u64 0,.slice none 0 0,.int .u64 0,.float .f64 0,.float .f64 0,.float .f64 0]) 11 136 Tryz.underlying48 hi hz0 hz1 hz2 rfl (by decide) v R.length (flV R) hs hG.own ⟨k,0,none⟩ 1 1 (flV [r]) hx (by rw [flV_length];rfl) (World.news_of_block (by simpa [flV] using hk)) (flV_one _ hr) (by omega) (by unfold maxLen;omega) (by omega) hG.size _ rfl ?_
 intro g cap w' h1 h2 h3 h4
 exact hh _ w' (hG.grow (ys:=[r]) hG.below hG.size h1 h2)
end Go.Proofs.YtlgkfeeclgcgbaaGreatDoor
/- TWO LISTS AS ONE: the generic merge. Own work of the verifier. -/
namespace Go.Proofs.YtlgkfeeclgcgbaaGreatDoor
open Go.RowKit Me
def mAll:List Rv→List Rv→List Rv
 | [],B=>B
 | a::A,[]=>a::A
 | a::A,b::B=>if La.ordD a.1.d b.1.d≤0 then a::mAll A (b::B) else b::mAll (a::A) B
termination_by A B=>A.length+B.length
theorem mAll_nil (A:List Rv):mAll A []=A:=by cases A <;> simp [mAll]
theorem mAll_drop (A B:List Rv) (i k:Nat) (h1:i < A.length) (h2:k < B.length):mAll (A.drop i) (B.drop k)=if La.ordD A[i].1.d B[k].1.d≤0 then A[i]::mAll (A.drop (i+1)) (B.drop k) else B[k]::mAll (A.drop i) (B.drop (k+1)):=by
 rw [List.drop_eq_getElem_cons h1,List.drop_eq_getElem_cons h2,mAll]
abbrev S3h (w:World) (b o:Nat) (x:Rv) (c p:Nat) (y:Rv) (W:World):Prop:=cC b o x.1 x.2.1 x.2.2 W∧cC c p y.1 y.2.1 y.2.2 W∧Below w.heap.size w W
theorem c11_bel {w W:World} {b o:Nat} {x:Rv} (h:C11 w b o x.1 x.2.1 x.2.2) (hb:Below w.heap.size w W):cC b o x.1 x.2.1 x.2.2 W:=(h.below hb).cC
theorem run_vals {w W0:World} {B:Nat} {v u:Value} {R Z:List Rv} {ao:Option Addr} {b o n cap:Nat} (hG:GV B W0 v R w) (hu:u=.slice ao n cap) (hn:n=Z.length) (hz0:n=0→ao=none∧cap=0∨∃ a,ao=some a) (hao:0 < n→ao=some ⟨b,o,none⟩) (hr:RowR w b o Z) (hz:Lz Z) (hl:R.length+Z.length≤1048576) (ty:TypeId) :
  ∃ v' w',(Builtin.append_ #[48,48] ty #[v,u]).run Tryz.prog w=.ok v' w'∧GV B W0 v' (R++Z) w':=by
 obtain ⟨i0,hi,hz1,hz2,hz3⟩:=info_parts infoV
 subst hn
 subst hu
 have some_case:∀ a:Addr,(0 < Z.length→a=⟨b,o,none⟩)→∃ v' w',(Builtin.append_ #[48,48] ty #[v,.slice (some a) Z.length cap]).run Tryz.prog w=.ok v' w'∧GV B W0 v' (R++Z) w':=fun a ha=>by
  obtain ⟨v',w',k1,k2,k3,_⟩:=run_append_own (P:=Tryz.prog) w B 48 ty 86 i0 _ 11 136 Tryz.underlying48 hi hz1 hz2 hz3 rfl (by decide) v R.length (flV R) hG.own a Z.length cap (flV Z) (flV_length Z) (fun j u hj=>by
   have hj2:0 < Z.length:=by
    rcases Nat.eq_zero_or_pos Z.length with e | e
    ·rw [List.length_eq_zero_iff.1 e] at hj;simp [flV] at hj
    ·exact e
   rw [ha hj2]
   exact hr.cells j u hj) (flV_one Z hz) (by unfold maxLen;omega) (by omega) hG.size
  exact ⟨v',w',k1,hG.grow hG.below hG.size k2 k3⟩
 rcases Nat.eq_zero_or_pos Z.length with e | e
 ·rcases hz0 e with ⟨rfl,rfl⟩ | ⟨a,rfl⟩
  ·have:Z=[]:=List.length_eq_zero_iff.1 e
   subst this
   refine ⟨v,w,?_,by rw [List.append_nil];exact hG⟩
   exact run_append_owned_none (P:=Tryz.prog) (w:=w) B 48 ty 86 i0 11 Tryz.underlying48 hi v R.length (flV R) hG.own
  ·exact some_case a (fun k=>by omega)
 ·obtain rfl:=hao e
  exact some_case _ (fun _=>rfl)
theorem wpList_run {P:Program} (w:World) {ops:Array Oper} {rest:List Oper} {o:Oper} {a:Act} {Q:Exit→Act→World→Prop} (hgd:o.guard=none) (s x:Operand) (t:TypeId)
  (ho:o.op=.call { callee:=.builtin .append,args:=#[s,x],argTypes:=#[t,t] }) (v0 v:Value) (hs:a.eval s=v0) (hx:a.eval x=v) {R:Value→World→Prop}
  (hrun:∃ v' w',(Builtin.append_ #[t,t] o.type #[v0,v]).run P w=.ok v' w'∧R v' w')
  (h:∀ v' w',R v' w'→wpList P ops Q rest (a.put o.dst v') w'):wpList P ops Q (o::rest) a w:=by
 refine wpList_plain hgd fun K hK=>?_
 obtain ⟨v',w',hr,h2⟩:=hrun
 unfold Oper.wp execOp
 simp only [ho,resolve,invoke,builtin,Sem.run_bind,Sem.run_pure,Result.andThen_ok,List.map_toArray,List.map_cons,List.map_nil,hs,hx,hr]
 exact hK _ _ (h v' w' h2)
structure Lf (b o:Nat) (R:List Rv) (i:Nat) (aa:Option Addr) (ac:Nat):Prop where
 le:i≤R.length
 c:R.length - i≤ac
 m:ac≤9223372036854775807
 z:R.length - i=0→aa=none∧ac=0∨∃ a,aa=some a
 s:i < R.length→aa=some ⟨b,o+i*11,none⟩
theorem head_ix (b o n cap:Nat) (h:0 < n) (W:World):(Instr.indexAt 48 (.slice (some ⟨b,o,none⟩) n cap) (.int .i64 0)).run Tryz.prog W=.ok (.pointer (some ⟨b,o,none⟩)) W:=by
 have:=index_val b o n cap 0 0 rfl h W
 simpa using this
theorem SV.lf {W:World} {v:Value} {L:List Vl} (h:SV W v L):∃ ao b o cap R,v=.slice ao L.length cap∧R.map (·.1)=L∧R.length=L.length∧Lf b o R 0 ao cap∧RowR W b o R∧Ls W R:=by
 rcases h with ⟨rfl,rfl⟩ | ⟨b,o,cap,rfl,h2,h3,hr⟩
 ·exact ⟨none,0,0,0,[],rfl,rfl,rfl,⟨by simp,by simp,by omega,fun _=>Or.inl ⟨rfl,rfl⟩,fun k=>by simp at k⟩,fun i hi=>by simp at hi,fun r hr=>by cases hr⟩
 ·obtain ⟨R,e1,e2,e3⟩:=hr.raw
  have hl:R.length=L.length:=by rw [← e1,List.length_map]
  exact ⟨_,b,o,cap,R,rfl,e1,hl,⟨by omega,by omega,h3,fun _=>Or.inr ⟨_,rfl⟩,fun _=>by simp⟩,e2,e3⟩
end Go.Proofs.YtlgkfeeclgcgbaaGreatDoor
/- TWO LISTS AS ONE: the walk. Own work of the verifier. -/
set_option maxRecDepth 100000
set_option maxHeartbeats 8000000
namespace Go.Proofs.YtlgkfeeclgcgbaaGreatDoor
open Go.RowKit Me
theorem keep3 {w W1:World} {b o c p:Nat} {x y:Rv} (hx:C11 w b o x.1 x.2.1 x.2.2) (hy:C11 w c p y.1 y.2.1 y.2.2) (hb:Below w.heap.size w W1):S3h w b o x c p y W1:=⟨c11_bel hx hb,c11_bel hy hb,hb⟩
theorem keep3' {w W W1:World} {b o c p:Nat} {x y:Rv} (hx:C11 w b o x.1 x.2.1 x.2.2) (hy:C11 w c p y.1 y.2.1 y.2.2) (hb:Below W.heap.size W W1) (h:S3h w b o x c p y W):S3h w b o x c p y W1:=keep3 hx hy (bt h.2.2 hb)
abbrev S4h (w:World) (b o:Nat) (x:Rv) (W:World):Prop:=cC b o x.1 x.2.1 x.2.2 W∧Below w.heap.size w W
theorem keep4 {w W1:World} {b o:Nat} {x:Rv} (hx:C11 w b o x.1 x.2.1 x.2.2) (hb:Below w.heap.size w W1):S4h w b o x W1:=⟨c11_bel hx hb,hb⟩
theorem lz_one {r:Rv} (h:r.2.1.oneCell'=true∧r.2.2.oneCell'=true):Lz [r]:=fun q hq=>by
 rw [List.mem_singleton] at hq
 subst hq
 exact h
structure MG (w:World) (A B:List Rv) (i k:Nat) (v:Value) (O:List Rv) (W:World):Prop where
 g:GV w.heap.size w v O W
 e:O++mAll (A.drop i) (B.drop k)=mAll A B
 l:O.length=i+k
theorem MG.left {w W:World} {A B:List Rv} {i k:Nat} {v:Value} {O:List Rv} {x:Rv} (h:MG w A B i k v O W) (hz:mAll (A.drop i) (B.drop k)=x::mAll (A.drop (i+1)) (B.drop k)):∀ v5 w5,GV w.heap.size w v5 (O++[x]) w5→MG w A B (i+1) k v5 (O++[x]) w5:=fun v5 w5 g=>by
 refine ⟨g,?_,by rw [List.length_append,h.l,List.length_singleton];omega⟩
 rw [← h.e,hz,List.append_assoc]
 rfl
theorem MG.right {w W:World} {A B:List Rv} {i k:Nat} {v:Value} {O:List Rv} {x:Rv} (h:MG w A B i k v O W) (hz:mAll (A.drop i) (B.drop k)=x::mAll (A.drop i) (B.drop (k+1))):∀ v5 w5,GV w.heap.size w v5 (O++[x]) w5→MG w A B i (k+1) v5 (O++[x]) w5:=fun v5 w5 g=>by
 refine ⟨g,?_,by rw [List.length_append,h.l,List.length_singleton];omega⟩
 rw [← h.e,hz,List.append_assoc]
 rfl
theorem Lf.next {b o:Nat} {R:List Rv} {i ac:Nat} {aa:Option Addr} (h:Lf b o R i aa ac) (hi:i < R.length):Lf b o R (i+1) (some ⟨b,o+i*11+11,none⟩) (ac - 1) :=
 ⟨by omega,by have:=h.c;omega,by have:=h.m;omega,fun _=>Or.inr ⟨_,rfl⟩,fun _=>by rw [show o+i*11+11=o+(i+1)*11 by omega]⟩
theorem Lf.last {b o:Nat} {R:List Rv} {i:Nat} {aa:Option Addr} (h:Lf b o R i aa 1) (hi:i < R.length) (a:Addr):Lf b o R (i+1) (some a) 0 :=
 ⟨by omega,by have:=h.c;omega,by omega,fun _=>Or.inr ⟨_,rfl⟩,fun k=>by have:=h.c;omega⟩
theorem RowR.drop {W:World} {b o:Nat} {R:List Rv} (h:RowR W b o R) (i:Nat):RowR W b (o+i*11) (R.drop i):=fun j hj=>by
 rw [List.length_drop] at hj
 have:=h (i+j) (by omega)
 rw [List.getElem_drop,show o+i*11+j*11=o+(i+j)*11 by omega]
 exact this
theorem Lz.drop {R:List Rv} (h:Lz R) (i:Nat):Lz (R.drop i):=fun r hr=>h r (List.mem_of_mem_drop hr)
theorem run_rest {w W:World} {b o:Nat} {v:Value} {R Z:List Rv} {i ac:Nat} {aa:Option Addr} (hG:GV w.heap.size w v R W) (hL:Lf b o Z i aa ac) (hr:RowR w b o Z) (hz:Ls w Z) (hl:R.length≤512) (hl2:Z.length≤256) (ty:TypeId) :
  ∃ v' w',(Builtin.append_ #[48,48] ty #[v,.slice aa (Z.length - i) ac]).run Tryz.prog W=.ok v' w'∧GV w.heap.size w v' (R++Z.drop i) w' :=
 run_vals (b:=b) (o:=o+i*11) hG rfl (by rw [List.length_drop]) hL.z (fun k=>hL.s (by omega)) ((hr.below hG.below).drop i) (hz.lz.drop i) (by rw [List.length_drop];omega) ty
theorem merge_walk (ao co:Option Addr) (b o cap c p cap':Nat) (A B:List Rv) (w:World) (hA:Lf b o A 0 ao cap) (hB:Lf c p B 0 co cap') (rA:RowR w b o A) (rB:RowR w c p B) (lA:Ls w A) (lB:Ls w B) (sA:A.length≤256) (sB:B.length≤256) :
  Calls Tryz.prog 302 #[.slice ao A.length cap,.slice co B.length cap',.func (.func 69) #[] #[]] w fun e w'=>∃ v,e=.returned v∧GV w.heap.size w v (mAll A B) w':=by
 have HM0:Hid (MG w A B 0 0 (.slice none 0 0) [] w):=⟨GV.nil (Below.refl _ _) (Nat.le_refl _),rfl,rfl⟩
 have HA0:=hid_of hA
 have HB0:=hid_of hB
 have HRA:=hid_of rA
 have HRB:=hid_of rB
 have HLA:=hid_of lA
 have HLB:=hid_of lB
 have eA:A.length - 0=A.length:=Nat.sub_zero _
 have eB:B.length - 0=B.length:=Nat.sub_zero _
 have HE:=hid_of (⟨eA,eB⟩:_∧_)
 clear hA hB rA rB lA lB eA eB
 go_enter Tryz.func302,Tryz.ntmps302
 go_upto_region 2 with fail
 go_loopw [0,1,7] (fun a d v W=>∃ (i k:Nat) (aa ca:Option Addr) (ac cc:Nat) (O:List Rv),a=.slice aa (A.length - i) ac∧d=.slice ca (B.length - k) cc∧Hid (Lf b o A i aa ac)∧Hid (Lf c p B k ca cc)∧Hid (MG w A B i k v O W)) (fun a d _ _=>slen a+slen d)
 case atStart=>exact ⟨0,0,ao,co,cap,cap',[],by rw [HE.out.1],by rw [HE.out.2],HA0,HB0,HM0⟩
 case round =>
  clear HM0 HA0 HB0 HE
  obtain ⟨i,k,aa,ca,ac,cc,O,rfl,rfl,HA,HB,HM⟩:=hrel
  have hA1:=HA.out.le
  have hB1:=HB.out.le
  by_cases hi:i < A.length
  ·by_cases hk:k < B.length
   ·obtain rfl:=HA.out.s hi
    obtain rfl:=HB.out.s hk
    have p1:(0:Int) < ((A.length - i:Nat):Int):=by omega
    have p2:(0:Int) < ((B.length - k:Nat):Int):=by omega
    have q1:0 < A.length - i:=by omega
    have q2:0 < B.length - k:=by omega
    have hxa:=HRA.out i hi
    have hxb:=HRB.out k hk
    have HP:=hid_of (hxa.below HM.out.g.below)
    have HQ:=hid_of (hxb.below HM.out.g.below)
    have HxA:=hid_of hxa
    have HxB:=hid_of hxb
    have i1:=head_ix b (o+i*11) (A.length - i) ac q1
    have i2:=head_ix c (p+k*11) (B.length - k) cc q2
    have hz:=mAll_drop A B i k hi hk
    have HC:Hid (∀ W,S3h wr b (o+i*11) A[i] c (p+k*11) B[k] W→Calls Tryz.prog 69 #[vx A[i].1 A[i].2.1 A[i].2.2,vx B[k].1 B[k].2.1 B[k].2.2] W fun e w'=>e=.returned (.int .i64 (La.ordD A[i].1.d B[k].1.d))∧Below W.heap.size W w'):=fun W h=>cser_any A[i].1 B[k].1 _ _ W (VAt.below ⟨_,_,rfl,HLA.out _ (List.getElem_mem hi)⟩ (bt HM.out.g.below h.2.2)) (VAt.below ⟨_,_,rfl,HLB.out _ (List.getElem_mem hk)⟩ (bt HM.out.g.below h.2.2))
    have HzA:=hid_of (HLA.out.lz _ (List.getElem_mem hi))
    have HzB:=hid_of (HLB.out.lz _ (List.getElem_mem hk))
    have hac:=HA.out.c
    have hcc:=HB.out.c
    have hmc:=HA.out.m
    have hmd:=HB.out.m
    clear hxa hxb HRA HRB
    generalize hX:A[i]=x at *
    generalize hY:B[k]=y at *
    generalize La.ordD x.1.d y.1.d=z at *
    have HX:=hid_of hX
    have HY:=hid_of hY
    clear hX hY
    go_upto_region 3 with fail
    go_cut [24] from 16 to 23 (fun v W=>v=.bool (decide (z≤0))∧Hid (Below wr.heap.size wr W))
    case first =>
     clear hz HM HA HB HLA HLB HzA HzB
     as_aux_lemma =>
      go_region_held3 (fun W=>S3h wr b (o+i*11) x c (p+k*11) y W)
       (first | assumption | exact keep3' HP.out HQ.out (by assumption) (by assumption) | exact keep3 HP.out HQ.out (drew_bel _))
       (first
        | (go_at_call 69;with_reducible refine (HC.out _ (by first | assumption | exact keep3' HP.out HQ.out (by assumption) (by assumption) | exact keep3 HP.out HQ.out (drew_bel _))).mono ?_;rintro e w3 ⟨rfl,hb3⟩))
      rename_i hS3
      go_wp2_with fail
      go_meet
      exact ⟨rfl,hS3.2.2⟩
    case rest =>
    obtain ⟨rfl,HBc⟩:=hcut
    clear HC
    by_cases hz0:z≤0
    ·rw [if_pos hz0] at hz
     have HG:=hid_of (HM.out.g.keep HBc.out)
     have HO:Hid (O.length≤1048576):=by have:=HM.out.l;unfold Hid;omega
     have HZ:=hid_of (lz_one HzA.out)
     have HMn:=hid_of (HM.out.left hz)
     clear HP HQ HzB HzA hz HM HBc HLA HLB HX HY
     obtain ⟨n,hn⟩:∃ n,A.length - i=n:=⟨_,rfl⟩
     have HEn:Hid (A.length - (i+1)=n - 1):=by unfold Hid;omega
     have Hm:Hid (A.length - i=n∧0 < n):=⟨hn,by omega⟩
     rw [hn] at p1 q1 hac i1 ⊢
     clear hn
     have f1:(1:Int)≤(n:Int):=by omega
     have f3:1≤ac:=by omega
     by_cases hac1:ac=1
     ·subst hac1
      have hn1:n=1:=by omega
      have HLn:=hid_of (HA.out.last hi)
      clear HA
      subst hn1
      go_upto_region 4 with fail
      go_region_held3 (fun W=>S4h w b (o+i*11) x W)
       (first | assumption | exact keep4 HxA.out (GV.below (by assumption)) | exact keep4 HxA.out (HG.out.keep (drew_bel _)).below | exact keep4 HxA.out ((HG.out.keep (drew_bel _)).keep (bel1 _ _)).below)
       (first
        | (refine step_val (by rfl) _ _ (by rfl) (by rfl) ((HG.out.keep (drew_bel _)).keep (bel1 _ _)) HO.out _ (by rfl) x HZ.out (new_1 _ _) ?_;intro v5 w5 hG5))
      all_goals
       go_wp2_with fail
       refine ⟨⟨i+1,k,_,_,_,_,O++[x],by rw [HEn.out],rfl,HLn.out _,HB,HMn.out _ _ hG5⟩,?_⟩
       have:=Hm.out
       simp only [slen]
       omega
     ·have g1:¬ (ac:Int)=1:=by omega
      have HLn:=hid_of (HA.out.next hi)
      clear HA
      go_upto_region 4 with fail
      go_region_held3 (fun W=>S4h w b (o+i*11) x W)
       (first | assumption | exact keep4 HxA.out (GV.below (by assumption)) | exact keep4 HxA.out (HG.out.keep (drew_bel _)).below | exact keep4 HxA.out ((HG.out.keep (drew_bel _)).keep (bel1 _ _)).below)
       (first
        | (refine step_val (by rfl) _ _ (by rfl) (by rfl) ((HG.out.keep (drew_bel _)).keep (bel1 _ _)) HO.out _ (by rfl) x HZ.out (new_1 _ _) ?_;intro v5 w5 hG5))
      all_goals
       go_wp2_with fail
       refine ⟨⟨i+1,k,_,_,_,_,O++[x],by rw [HEn.out],rfl,HLn.out,HB,HMn.out _ _ hG5⟩,?_⟩
       have:=Hm.out
       simp only [slen]
       omega
    ·rw [if_neg hz0] at hz
     have HG:=hid_of (HM.out.g.keep HBc.out)
     have HO:Hid (O.length≤1048576):=by have:=HM.out.l;unfold Hid;omega
     have HZ:=hid_of (lz_one HzB.out)
     have HMn:=hid_of (HM.out.right hz)
     clear HP HQ HzB HzA hz HM HBc HLA HLB HX HY
     obtain ⟨n,hn⟩:∃ n,B.length - k=n:=⟨_,rfl⟩
     have HEn:Hid (B.length - (k+1)=n - 1):=by unfold Hid;omega
     have Hm:Hid (B.length - k=n∧0 < n):=⟨hn,by omega⟩
     rw [hn] at p2 q2 hcc i2 ⊢
     clear hn
     have f1:(1:Int)≤(n:Int):=by omega
     have f3:1≤cc:=by omega
     by_cases hac1:cc=1
     ·subst hac1
      have hn1:n=1:=by omega
      have HLn:=hid_of (HB.out.last hk)
      clear HB
      subst hn1
      go_upto_region 5 with fail
      go_region_held3 (fun W=>S4h w c (p+k*11) y W)
       (first | assumption | exact keep4 HxB.out (GV.below (by assumption)) | exact keep4 HxB.out (HG.out.keep (drew_bel _)).below | exact keep4 HxB.out ((HG.out.keep (drew_bel _)).keep (bel1 _ _)).below)
       (first
        | (refine step_val (by rfl) _ _ (by rfl) (by rfl) ((HG.out.keep (drew_bel _)).keep (bel1 _ _)) HO.out _ (by rfl) y HZ.out (new_1 _ _) ?_;intro v5 w5 hG5))
      all_goals
       go_wp2_with fail
       refine ⟨⟨i,k+1,_,_,_,_,O++[y],rfl,by rw [HEn.out],HA,HLn.out _,HMn.out _ _ hG5⟩,?_⟩
       have:=Hm.out
       simp only [slen]
       omega
     ·have g1:¬ (cc:Int)=1:=by omega
      have HLn:=hid_of (HB.out.next hk)
      clear HB
      go_upto_region 5 with fail
      go_region_held3 (fun W=>S4h w c (p+k*11) y W)
       (first | assumption | exact keep4 HxB.out (GV.below (by assumption)) | exact keep4 HxB.out (HG.out.keep (drew_bel _)).below | exact keep4 HxB.out ((HG.out.keep (drew_bel _)).keep (bel1 _ _)).below)
       (first
        | (refine step_val (by rfl) _ _ (by rfl) (by rfl) ((HG.out.keep (drew_bel _)).keep (bel1 _ _)) HO.out _ (by rfl) y HZ.out (new_1 _ _) ?_;intro v5 w5 hG5))
      all_goals
       go_wp2_with fail
       refine ⟨⟨i,k+1,_,_,_,_,O++[y],rfl,by rw [HEn.out],HA,HLn.out,HMn.out _ _ hG5⟩,?_⟩
       have:=Hm.out
       simp only [slen]
       omega
   ·have p1:(0:Int) < ((A.length - i:Nat):Int):=by omega
    have e2:B.length - k=0:=by omega
    have HR1:=hid_of (fun ty=>run_rest HM.out.g HA.out HRA.out HLA.out (by have:=HM.out.l;omega) sA ty)
    have HR2:Hid (∀ v5 w5 ty,GV w.heap.size w v5 (O++A.drop i) w5→∃ v' w',(Builtin.append_ #[48,48] ty #[v5,.slice ca (B.length - k) cc]).run Tryz.prog w5=.ok v' w'∧GV w.heap.size w v' (O++A.drop i++B.drop k) w'):=fun v5 w5 ty g=>run_rest g HB.out HRB.out HLB.out (by rw [List.length_append,List.length_drop];have:=HM.out.l;omega) sB ty
    have HF:Hid (O++A.drop i++B.drop k=mAll A B):=by
     have:=HM.out.e
     rw [List.drop_eq_nil_of_le (show B.length≤k by omega),mAll_nil] at this
     rw [List.drop_eq_nil_of_le (show B.length≤k by omega),List.append_nil]
     exact this
    rw [e2] at HR2 ⊢
    clear HA HB HM HRA HRB HLA HLB
    go_wp2_with (first
     | (at_builtin;refine wpList_run _ rfl _ _ 48 rfl _ _ rfl rfl (HR1.out _) ?_;intro v5 w5 hG5)
     | (at_builtin;refine wpList_run _ rfl _ _ 48 rfl _ _ rfl rfl (HR2.out _ _ _ hG5) ?_;intro v6 w6 hG6))
    go_ret
    rw [HF.out] at hG6
    exact ⟨_,rfl,hG6⟩
  ·have e1:A.length - i=0:=by omega
   have HR1:=hid_of (fun ty=>run_rest HM.out.g HA.out HRA.out HLA.out (by have:=HM.out.l;omega) sA ty)
   have HR2:Hid (∀ v5 w5 ty,GV w.heap.size w v5 (O++A.drop i) w5→∃ v' w',(Builtin.append_ #[48,48] ty #[v5,.slice ca (B.length - k) cc]).run Tryz.prog w5=.ok v' w'∧GV w.heap.size w v' (O++A.drop i++B.drop k) w'):=fun v5 w5 ty g=>run_rest g HB.out HRB.out HLB.out (by rw [List.length_append,List.length_drop];have:=HM.out.l;omega) sB ty
   have HF:Hid (O++A.drop i++B.drop k=mAll A B):=by
    have:=HM.out.e
    rw [List.drop_eq_nil_of_le (show A.length≤i by omega),mAll] at this
    rw [List.drop_eq_nil_of_le (show A.length≤i by omega),List.append_nil]
    exact this
   rw [e1] at HR1 ⊢
   clear HA HB HM HRA HRB HLA HLB
   go_wp2_with (first
    | (at_builtin;refine wpList_run _ rfl _ _ 48 rfl _ _ rfl rfl (HR1.out _) ?_;intro v5 w5 hG5)
    | (at_builtin;refine wpList_run _ rfl _ _ 48 rfl _ _ rfl rfl (HR2.out _ _ _ hG5) ?_;intro v6 w6 hG6))
   go_ret
   rw [HF.out] at hG6
   exact ⟨_,rfl,hG6⟩
end Go.Proofs.YtlgkfeeclgcgbaaGreatDoor
/- BLOCKS OF VALUES, COPIES. Own work of the verifier. -/
set_option maxHeartbeats 8000000
namespace Go.Proofs.YtlgkfeeclgcgbaaGreatDoor
open Go.RowKit Me
theorem hid_fr {W:World} {b:Nat} {c:Array Value} {t:TypeId} (h:Hid (W.heap[b]? =some (.cells c t (0,0)))) (o:Nat):W.frozen? ⟨b,o,none⟩=false:=by unfold Hid at h;simp [World.frozen?,h]
theorem eleven_cells {W:World} {b:Nat} {u0 u1 u2 u3 u4 u5 u6 u7 u8 u9 u10:Value} {t:TypeId} (h:Hid (W.heap[b]? =some (.cells #[u0,u1,u2,u3,u4,u5,u6,u7,u8,u9,u10] t (0,0)))):W.cell? ⟨b,0,none⟩=some u0∧W.cell? ⟨b,1,none⟩=some u1∧W.cell? ⟨b,2,none⟩=some u2∧W.cell? ⟨b,3,none⟩=some u3∧W.cell? ⟨b,4,none⟩=some u4∧W.cell? ⟨b,5,none⟩=some u5∧W.cell? ⟨b,6,none⟩=some u6∧W.cell? ⟨b,7,none⟩=some u7∧W.cell? ⟨b,8,none⟩=some u8∧W.cell? ⟨b,9,none⟩=some u9∧W.cell? ⟨b,10,none⟩=some u10:=by
 unfold Hid at h;simp [World.cell?,h]
theorem eleven_fr {W:World} {b:Nat} {u0 u1 u2 u3 u4 u5 u6 u7 u8 u9 u10:Value} {t:TypeId} (h:Hid (W.heap[b]? =some (.cells #[u0,u1,u2,u3,u4,u5,u6,u7,u8,u9,u10] t (0,0)))):W.frozen? ⟨b,0,none⟩=false∧W.frozen? ⟨b,1,none⟩=false∧W.frozen? ⟨b,2,none⟩=false∧W.frozen? ⟨b,3,none⟩=false∧W.frozen? ⟨b,4,none⟩=false∧W.frozen? ⟨b,5,none⟩=false∧W.frozen? ⟨b,6,none⟩=false∧W.frozen? ⟨b,7,none⟩=false∧W.frozen? ⟨b,8,none⟩=false∧W.frozen? ⟨b,9,none⟩=false∧W.frozen? ⟨b,10,none⟩=false :=
 ⟨hid_fr h 0,hid_fr h 1,hid_fr h 2,hid_fr h 3,hid_fr h 4,hid_fr h 5,hid_fr h 6,hid_fr h 7,hid_fr h 8,hid_fr h 9,hid_fr h 10⟩
def put11 (W:World) (b:Nat) (v0 v1 v2 v3 v4 v5 v6 v7 v8 v9 v10:Value):World:=((((((((((W.setCell ⟨b,0,none⟩ v0).setCell ⟨b,1,none⟩ v1).setCell ⟨b,2,none⟩ v2).setCell ⟨b,3,none⟩ v3).setCell ⟨b,4,none⟩ v4).setCell ⟨b,5,none⟩ v5).setCell ⟨b,6,none⟩ v6).setCell ⟨b,7,none⟩ v7).setCell ⟨b,8,none⟩ v8).setCell ⟨b,9,none⟩ v9).setCell ⟨b,10,none⟩ v10
theorem put11_eq (W:World) (b:Nat) (v0 v1 v2 v3 v4 v5 v6 v7 v8 v9 v10:Value):((((((((((W.setCell ⟨b,0,none⟩ v0).setCell ⟨b,1,none⟩ v1).setCell ⟨b,2,none⟩ v2).setCell ⟨b,3,none⟩ v3).setCell ⟨b,4,none⟩ v4).setCell ⟨b,5,none⟩ v5).setCell ⟨b,6,none⟩ v6).setCell ⟨b,7,none⟩ v7).setCell ⟨b,8,none⟩ v8).setCell ⟨b,9,none⟩ v9).setCell ⟨b,10,none⟩ v10=put11 W b v0 v1 v2 v3 v4 v5 v6 v7 v8 v9 v10:=rfl
theorem set_eleven {W:World} {b:Nat} {u0 u1 u2 u3 u4 u5 u6 u7 u8 u9 u10 v0 v1 v2 v3 v4 v5 v6 v7 v8 v9 v10:Value} {t:TypeId} (h:W.heap[b]? =some (.cells #[u0,u1,u2,u3,u4,u5,u6,u7,u8,u9,u10] t (0,0))):(put11 W b v0 v1 v2 v3 v4 v5 v6 v7 v8 v9 v10).heap[b]? =some (.cells #[v0,v1,v2,v3,v4,v5,v6,v7,v8,v9,v10] t (0,0)):=by
 have h1:(W.setCell ⟨b,0,none⟩ v0).heap[b]? =some (.cells #[v0,u1,u2,u3,u4,u5,u6,u7,u8,u9,u10] t (0,0)):=by rw [heap_setCell_same _ b 0 _ _ _ h];rfl
 have h2:((W.setCell ⟨b,0,none⟩ v0).setCell ⟨b,1,none⟩ v1).heap[b]? =some (.cells #[v0,v1,u2,u3,u4,u5,u6,u7,u8,u9,u10] t (0,0)):=by rw [heap_setCell_same _ b 1 _ _ _ h1];rfl
 have h3:(((W.setCell ⟨b,0,none⟩ v0).setCell ⟨b,1,none⟩ v1).setCell ⟨b,2,none⟩ v2).heap[b]? =some (.cells #[v0,v1,v2,u3,u4,u5,u6,u7,u8,u9,u10] t (0,0)):=by rw [heap_setCell_same _ b 2 _ _ _ h2];rfl
 have h4:((((W.setCell ⟨b,0,none⟩ v0).setCell ⟨b,1,none⟩ v1).setCell ⟨b,2,none⟩ v2).setCell ⟨b,3,none⟩ v3).heap[b]? =some (.cells #[v0,v1,v2,v3,u4,u5,u6,u7,u8,u9,u10] t (0,0)):=by rw [heap_setCell_same _ b 3 _ _ _ h3];rfl
 have h5:(((((W.setCell ⟨b,0,none⟩ v0).setCell ⟨b,1,none⟩ v1).setCell ⟨b,2,none⟩ v2).setCell ⟨b,3,none⟩ v3).setCell ⟨b,4,none⟩ v4).heap[b]? =some (.cells #[v0,v1,v2,v3,v4,u5,u6,u7,u8,u9,u10] t (0,0)):=by rw [heap_setCell_same _ b 4 _ _ _ h4];rfl
 have h6:((((((W.setCell ⟨b,0,none⟩ v0).setCell ⟨b,1,none⟩ v1).setCell ⟨b,2,none⟩ v2).setCell ⟨b,3,none⟩ v3).setCell ⟨b,4,none⟩ v4).setCell ⟨b,5,none⟩ v5).heap[b]? =some (.cells #[v0,v1,v2,v3,v4,v5,u6,u7,u8,u9,u10] t (0,0)):=by rw [heap_setCell_same _ b 5 _ _ _ h5];rfl
 have h7:(((((((W.setCell ⟨b,0,none⟩ v0).setCell ⟨b,1,none⟩ v1).setCell ⟨b,2,none⟩ v2).setCell ⟨b,3,none⟩ v3).setCell ⟨b,4,none⟩ v4).setCell ⟨b,5,none⟩ v5).setCell ⟨b,6,none⟩ v6).heap[b]? =some (.cells #[v0,v1,v2,v3,v4,v5,v6,u7,u8,u9,u10] t (0,0)):=by rw [heap_setCell_same _ b 6 _ _ _ h6];rfl
 have h8:((((((((W.setCell ⟨b,0,none⟩ v0).setCell ⟨b,1,none⟩ v1).setCell ⟨b,2,none⟩ v2).setCell ⟨b,3,none⟩ v3).setCell ⟨b,4,none⟩ v4).setCell ⟨b,5,none⟩ v5).setCell ⟨b,6,none⟩ v6).setCell ⟨b,7,none⟩ v7).heap[b]? =some (.cells #[v0,v1,v2,v3,v4,v5,v6,v7,u8,u9,u10] t (0,0)):=by rw [heap_setCell_same _ b 7 _ _ _ h7];rfl
 have h9:(((((((((W.setCell ⟨b,0,none⟩ v0).setCell ⟨b,1,none⟩ v1).setCell ⟨b,2,none⟩ v2).setCell ⟨b,3,none⟩ v3).setCell ⟨b,4,none⟩ v4).setCell ⟨b,5,none⟩ v5).setCell ⟨b,6,none⟩ v6).setCell ⟨b,7,none⟩ v7).setCell ⟨b,8,none⟩ v8).heap[b]? =some (.cells #[v0,v1,v2,v3,v4,v5,v6,v7,v8,u9,u10] t (0,0)):=by rw [heap_setCell_same _ b 8 _ _ _ h8];rfl
 have h10:((((((((((W.setCell ⟨b,0,none⟩ v0).setCell ⟨b,1,none⟩ v1).setCell ⟨b,2,none⟩ v2).setCell ⟨b,3,none⟩ v3).setCell ⟨b,4,none⟩ v4).setCell ⟨b,5,none⟩ v5).setCell ⟨b,6,none⟩ v6).setCell ⟨b,7,none⟩ v7).setCell ⟨b,8,none⟩ v8).setCell ⟨b,9,none⟩ v9).heap[b]? =some (.cells #[v0,v1,v2,v3,v4,v5,v6,v7,v8,v9,u10] t (0,0)):=by rw [heap_setCell_same _ b 9 _ _ _ h9];rfl
 have h11:(((((((((((W.setCell ⟨b,0,none⟩ v0).setCell ⟨b,1,none⟩ v1).setCell ⟨b,2,none⟩ v2).setCell ⟨b,3,none⟩ v3).setCell ⟨b,4,none⟩ v4).setCell ⟨b,5,none⟩ v5).setCell ⟨b,6,none⟩ v6).setCell ⟨b,7,none⟩ v7).setCell ⟨b,8,none⟩ v8).setCell ⟨b,9,none⟩ v9).setCell ⟨b,10,none⟩ v10).heap[b]? =some (.cells #[v0,v1,v2,v3,v4,v5,v6,v7,v8,v9,v10] t (0,0)):=by rw [heap_setCell_same _ b 10 _ _ _ h10];rfl
 exact h11
def flL:List La.Lb→List Value
 | []=>[]
 | c::L=>.string ⟨c.1.toArray⟩::.string ⟨c.2.toArray⟩::flL L
theorem flL_length (L:List La.Lb):(flL L).length=L.length*2:=by
 induction L with
 | nil=>rfl
 | cons c L ih=>simp only [flL,List.length_cons,ih];omega
theorem flL_append (A B:List La.Lb):flL (A++B)=flL A++flL B:=by
 induction A with
 | nil=>rfl
 | cons c A ih=>simp only [List.cons_append,flL,ih]
theorem flL_get (L:List La.Lb) (i:Nat) (h:i < L.length):(flL L)[i*2]? =some (.string ⟨L[i].1.toArray⟩)∧(flL L)[i*2+1]? =some (.string ⟨L[i].2.toArray⟩):=by
 induction L generalizing i with
 | nil=>simp at h
 | cons c L ih =>
  cases i with
  | zero=>exact ⟨rfl,rfl⟩
  | succ i =>
   have:=ih i (by simpa using h)
   rw [show (i+1)*2=i*2+2 by omega]
   simpa [flL] using this
theorem flL_one (L:List La.Lb):∀ u ∈ flL L,u.oneCell'=true:=by
 induction L with
 | nil=>intro u hu;cases hu
 | cons c L ih =>
  intro u hu
  simp only [flL,List.mem_cons] at hu
  rcases hu with rfl | rfl | h
  ·rfl
  ·rfl
  ·exact ih u h
theorem infoLabel:(Tryz.prog.info? 152).map (fun i=>(i.zero,i.size,i.bytes))=some (some (.agg #[.string ⟨#[]⟩,.string ⟨#[]⟩]),2,32):=by kernel_rfl
theorem rowL_cells {w:World} {b o:Nat} {L:List La.Lb} (h:La.RowL w b o L) (j:Nat) (u:Value) (hu:(flL L)[j]? =some u):w.cell? ((⟨b,o,none⟩:Addr).add j)=some u:=by
 have hj:j < (flL L).length:=by
  rcases Nat.lt_or_ge j (flL L).length with c | c
  ·exact c
  ·rw [List.getElem?_eq_none c] at hu;cases hu
 rw [flL_length] at hj
 have hi:j / 2 < L.length:=by omega
 obtain ⟨g1,g2⟩:=flL_get L (j / 2) hi
 obtain ⟨h1,h2⟩:=h (j / 2) hi
 rw [Addr.add_lit]
 rcases Nat.mod_two_eq_zero_or_one j with e | e
 ·rw [show j / 2*2=j by omega] at g1 h1
  rw [g1] at hu
  cases hu
  exact h1
 ·rw [show j / 2*2+1=j by omega] at g2
  rw [show o+j / 2*2+1=o+j by omega] at h2
  rw [g2] at hu
  cases hu
  exact h2
theorem store_f (W:World) (a:Addr) (x:Nat) (m:Mode):(store a (.float .f64 x) m).run Tryz.prog W=stored Tryz.prog W a (.float .f64 x) m:=run_store Tryz.prog W a _ m rfl
def OwnL (B:Nat) (v:Value) (L:List La.Lb) (W:World):Prop:=W.ownsRow B 152 2 v L.length (flL L)
def OwnC (B:Nat) (v:Value) (L:List Cn) (W:World):Prop:=W.ownsRow B 174 2 v L.length (fl L)
theorem OwnL.slb {B:Nat} {v:Value} {L:List La.Lb} {W:World} (h:OwnL B v L W):SLb W v L:=by
 rcases h.2 with ⟨h1,h2⟩ | ⟨g,cap,cur,hv,hg,hh,h3,h4,h5,h6⟩
 ·exact Or.inl ⟨h1,List.length_eq_zero_iff.1 h2⟩
 ·refine Or.inr (Or.inl ⟨g,0,cap,hv,h3,by unfold maxLen at h4;omega,fun i hi=>?_⟩)
  obtain ⟨e1,e2⟩:=flL_get L i hi
  rw [← h6,List.getElem?_take,if_pos (by omega)] at e1
  rw [← h6,List.getElem?_take,if_pos (by omega)] at e2
  rw [Array.getElem?_toList] at e1 e2
  constructor
  ·show W.cell? ⟨g,0+i*2,none⟩=_
   rw [Nat.zero_add]
   simp [World.cell?,hh,e1]
  ·show W.cell? ⟨g,0+i*2+1,none⟩=_
   rw [Nat.zero_add]
   simp [World.cell?,hh,e2]
theorem OwnC.sn {B:Nat} {v:Value} {L:List Cn} {W:World} (h:OwnC B v L W) (hB:B≤W.heap.size):SN W v L:=GC.sn (B:=B) (W0:=W) ⟨h,⟨rfl,rfl,rfl,Nat.le_refl _,fun _ _=>rfl⟩,hB⟩
theorem run_copyL {w:World} {v:Value} {L:List La.Lb} (h:SLb w v L) (hl:L.length≤1048576) (ty:TypeId) :
  ∃ v' w',(Builtin.append_ #[58,58] ty #[.slice none 0 0,v]).run Tryz.prog w=.ok v' w'∧(OwnL w.heap.size v' L w'∧Below w.heap.size w w'):=by
 obtain ⟨i0,hi,hz0,hz1,hz2⟩:=info_parts infoLabel
 have key:∀ (a:Addr) (cap:Nat),v=.slice (some a) L.length cap→(∀ j u,(flL L)[j]? =some u→w.cell? (a.add j)=some u)→∃ v' w',(Builtin.append_ #[58,58] ty #[.slice none 0 0,v]).run Tryz.prog w=.ok v' w'∧(OwnL w.heap.size v' L w'∧Below w.heap.size w w'):=fun a cap hv hr=>by
  subst hv
  obtain ⟨v',w',k1,k2,k3,_⟩:=run_append_own (P:=Tryz.prog) w w.heap.size 58 ty 152 i0 (.agg #[.string ⟨#[]⟩,.string ⟨#[]⟩]) 2 32 Tryz.underlying58 hi hz0 hz1 hz2 rfl (by decide) (.slice none 0 0) 0 [] (World.ownsRow_nil _ _ _ _) a L.length cap (flL L) (flL_length L) hr (flL_one L) (by unfold maxLen;omega) (by omega) (Nat.le_refl _)
  exact ⟨v',w',k1,by unfold OwnL;simpa using k2,⟨k3.os,k3.tape,k3.output,k3.size,fun k hk=>k3.block k hk (by simp [Value.ownBlock])⟩⟩
 rcases h with ⟨rfl,rfl⟩ | ⟨b,o,cap,hv,_,_,hr⟩ | ⟨a,cap,hv,_,hL⟩
 ·refine ⟨.slice none 0 0,w,?_,World.ownsRow_nil _ _ _ _,Below.refl _ _⟩
  simp [Builtin.append_,run_underlying Tryz.underlying58,sizeOf,typeInfo,zeroValue,hi,hz0,Builtin.lenOf,run_firstCells_none]
 ·exact key ⟨b,o,none⟩ cap hv (rowL_cells hr)
 ·exact key a cap hv (fun j u hu=>by rw [hL] at hu;simp [flL] at hu)
theorem run_copyC {w:World} {v:Value} {L:List Cn} (h:SN w v L) (hl:L.length≤1048576) (ty:TypeId) :
  ∃ v' w',(Builtin.append_ #[84,84] ty #[.slice none 0 0,v]).run Tryz.prog w=.ok v' w'∧(OwnC w.heap.size v' L w'∧Below w.heap.size w w'):=by
 obtain ⟨i0,hi,hz0,hz1,hz2⟩:=info_parts infoC
 rcases h with ⟨rfl,rfl⟩ | ⟨a,cap,rfl,_,hr⟩
 ·refine ⟨.slice none 0 0,w,?_,World.ownsRow_nil _ _ _ _,Below.refl _ _⟩
  simp [Builtin.append_,run_underlying Tryz.underlying84,sizeOf,typeInfo,zeroValue,hi,hz0,Builtin.lenOf,run_firstCells_none]
 ·obtain ⟨v',w',k1,k2,k3,_⟩:=run_append_own (P:=Tryz.prog) w w.heap.size 84 ty 174 i0 (.agg #[.int .i64 0,.int .u64 0]) 2 16 Tryz.underlying84 hi hz0 hz1 hz2 rfl (by decide) (.slice none 0 0) 0 [] (World.ownsRow_nil _ _ _ _) a L.length cap (fl L) (fl_length L) hr (fl_one L) (by unfold maxLen;omega) (by omega) (Nat.le_refl _)
  refine ⟨v',w',k1,by unfold OwnC;simpa using k2,⟨k3.os,k3.tape,k3.output,k3.size,fun k hk=>k3.block k hk (by simp [Value.ownBlock])⟩⟩
theorem put11_bel {a W:World} {B b:Nat} (h:Below B a W) (hb:B≤b) (v0 v1 v2 v3 v4 v5 v6 v7 v8 v9 v10:Value):Below B a (put11 W b v0 v1 v2 v3 v4 v5 v6 v7 v8 v9 v10):=by
 unfold put11
 exact ((((((((((h.setCell (p:=⟨b,0,none⟩) hb _).setCell (p:=⟨b,1,none⟩) hb _).setCell (p:=⟨b,2,none⟩) hb _).setCell (p:=⟨b,3,none⟩) hb _).setCell (p:=⟨b,4,none⟩) hb _).setCell (p:=⟨b,5,none⟩) hb _).setCell (p:=⟨b,6,none⟩) hb _).setCell (p:=⟨b,7,none⟩) hb _).setCell (p:=⟨b,8,none⟩) hb _).setCell (p:=⟨b,9,none⟩) hb _).setCell (p:=⟨b,10,none⟩) hb _
theorem own_set {W:World} {B:Nat} {e:TypeId} {s n:Nat} {v:Value} {xs:List Value} (h:W.ownsRow B e s v n xs) {a:Addr} (ha:v.ownBlock≠some a.block) (u:Value):(W.setCell a u).ownsRow B e s v n xs:=by
 refine ⟨h.1,?_⟩
 rcases h.2 with k | ⟨g,cap,cur,hv,hg,hh,r⟩
 ·exact Or.inl k
 ·exact Or.inr ⟨g,cap,cur,hv,hg,by rw [Below.heap_setCell _ _ _ _ (fun e=>ha (by rw [hv,e];rfl))];exact hh,r⟩
theorem own_put11 {W:World} {B b:Nat} {e:TypeId} {s n:Nat} {v:Value} {xs:List Value} (h:W.ownsRow B e s v n xs) (ha:v.ownBlock≠some b) (v0 v1 v2 v3 v4 v5 v6 v7 v8 v9 v10:Value):(put11 W b v0 v1 v2 v3 v4 v5 v6 v7 v8 v9 v10).ownsRow B e s v n xs:=by
 unfold put11
 exact own_set (own_set (own_set (own_set (own_set (own_set (own_set (own_set (own_set (own_set (own_set h ha _) ha _) ha _) ha _) ha _) ha _) ha _) ha _) ha _) ha _) ha _
abbrev zc:Array Value:=#[.int .i64 0,.string ⟨#[]⟩,.string ⟨#[]⟩,.slice none 0 0,.int .i64 0,.int .u64 0,.slice none 0 0,.int .u64 0,.float .f64 0,.float .f64 0,.float .f64 0]
end Go.Proofs.YtlgkfeeclgcgbaaGreatDoor
