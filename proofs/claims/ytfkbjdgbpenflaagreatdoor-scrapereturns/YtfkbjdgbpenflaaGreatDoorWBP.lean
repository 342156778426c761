/- THE PAGE: a text that grows; line. Own work of the verifier. -/
import Derived.Test.YtfkbjdgbpenflaaGreatDoorWAN
import Derived.Test.YtfkbjdgbpenflaaGreatDoorWAF
import Derived.Test.YtfkbjdgbpenflaaGreatDoorWAC
import Derived.Lib.AppendStr
import Derived.Lib.BufferKept
import Derived.Lib.AppendZerosOnto
import Derived.Lib.SliceRun
set_option maxRecDepth 100000
set_option maxHeartbeats 4000000
namespace Go.Proofs.YtfkbjdgbpenflaaGreatDoor
open Go.RowKit Me
structure Pg (u:World) (pb:Nat) (w0:World) (p:Int) (T:List UInt8) (W:World):Prop where
 at_:∃ ao cap,W.heap[pb]? =some (.cells #[.int .i64 p,.slice ao T.length cap] 49)∧W.ownsRow u.heap.size 5 1 (.slice ao T.length cap) T.length (Lib.byteCells T)
 lo:u.heap.size≤pb
 st:Below u.heap.size u W
 ok:Lib.OthersKept 5 (some pb) w0 W
theorem Pg.sz {u:World} {pb:Nat} {w0 W:World} {p:Int} {T:List UInt8} (h:Pg u pb w0 p T W):u.heap.size≤W.heap.size:=h.st.size
theorem own_slice8 {W:World} {B:Nat} {e:TypeId} {v:Value} {n:Nat} {xs:List Value} (h:W.ownsRow B e 1 v n xs):∃ ao cap,v=.slice ao n cap:=by
 rcases h.2 with ⟨k,k2⟩ | ⟨g,cap,cur,k,_⟩
 ·exact ⟨none,0,by rw [k,k2]⟩
 ·exact ⟨_,cap,k⟩
theorem own_kind8 {W:World} {B:Nat} {e:TypeId} {v:Value} {n:Nat} {xs:List Value} (h:W.ownsRow B e 1 v n xs):∀ g,v.ownBlock=some g→∃ c fz,W.heap[g]? =some (.cells c e fz):=by
 intro g hg
 rcases h.2 with ⟨rfl,_⟩ | ⟨g',cap,cur,rfl,_,hgg,_⟩
 ·simp [Value.ownBlock] at hg
 ·simp [Value.ownBlock] at hg
  subst hg
  exact ⟨cur,_,hgg⟩
theorem Pg.re {u:World} {pb:Nat} {w0 W:World} {p:Int} {T:List UInt8} (h:Pg u pb w0 p T W):Pg u pb W p T W:=⟨h.at_,h.lo,h.st,Lib.OthersKept.refl _ _ _⟩
theorem Pg.then {u:World} {pb:Nat} {w0 W W1:World} {p:Int} {T T1:List UInt8} (h:Pg u pb w0 p T W) (k:Pg u pb W p T1 W1):Pg u pb w0 p T1 W1:=⟨k.at_,h.lo,k.st,h.ok.trans k.ok⟩
theorem Pg.lt {u:World} {pb:Nat} {w0 W:World} {p:Int} {T:List UInt8} (h:Pg u pb w0 p T W):pb < W.heap.size:=by
 obtain ⟨ao,cap,h1,_⟩:=h.at_
 exact (Array.getElem?_eq_some_iff.1 h1).1
theorem Pg.below {u:World} {pb:Nat} {w0 W W1:World} {p:Int} {T:List UInt8} (h:Pg u pb w0 p T W) (hb:Below W.heap.size W W1):Pg u pb w0 p T W1:=by
 obtain ⟨ao,cap,h1,h2⟩:=h.at_
 exact ⟨⟨ao,cap,(hb.block pb h.lt).trans h1,own_belG h2 hb⟩,h.lo,bt h.st hb,h.ok.below hb⟩
theorem Pg.alloc {u:World} {pb:Nat} {w0 W:World} {p:Int} {T:List UInt8} (h:Pg u pb w0 p T W) (o:Obj):Pg u pb w0 p T (W.alloc o):=h.below (bel1 W o)
theorem Pg.cell {u:World} {pb:Nat} {w0 W:World} {p:Int} {T:List UInt8} (h:Pg u pb w0 p T W):∃ ao cap,W.cell? ⟨pb,0,none⟩=some (.int .i64 p)∧W.cell? ⟨pb,1,none⟩=some (.slice ao T.length cap)∧W.frozen? ⟨pb,1,none⟩=false∧W.ownsRow u.heap.size 5 1 (.slice ao T.length cap) T.length (Lib.byteCells T):=by
 obtain ⟨ao,cap,h1,h2⟩:=h.at_
 exact ⟨ao,cap,by simp [World.cell?,h1],by simp [World.cell?,h1],by simp [World.frozen?,h1],h2⟩
theorem Pg.cells {u:World} {pb g:Nat} {W W1:World} {p:Int} {T:List UInt8} {cs:Array Value} {t:TypeId} (h:Pg u pb W p T W1) (hg:W.heap[g]? =some (.cells cs t)) (hk:g≠pb) (ht:t≠5):W1.heap[g]? =some (.cells cs t) :=
 h.ok g _ hg (fun e=>hk (Option.some.inj e)) (fun c fz e=>ht (by injection e))
theorem Pg.put {u:World} {pb:Nat} {w0 W W1:World} {p:Int} {T S:List UInt8} {ao:Option Addr} {cap:Nat} {v:Value} (h:Pg u pb w0 p T W) (hc:W.cell? ⟨pb,1,none⟩=some (.slice ao T.length cap)) (hown:W1.ownsRow u.heap.size 5 1 v (T++S).length (Lib.byteCells (T++S)))
  (hg:W.grownBy W1 (Value.slice ao T.length cap).ownBlock):W1.cell? ⟨pb,1,none⟩=some (.slice ao T.length cap)∧W1.frozen? ⟨pb,1,none⟩=false∧Pg u pb w0 p (T++S) (W1.setCell ⟨pb,1,none⟩ v):=by
 obtain ⟨ao',cap',h1,h2⟩:=h.at_
 have e:W.cell? ⟨pb,1,none⟩=some (.slice ao' T.length cap'):=by simp [World.cell?,h1]
 rw [hc] at e
 obtain ⟨rfl,rfl⟩:ao=ao'∧cap=cap':=by simpa using e
 have hne:=own_notype h2 h1 (by decide)
 have hb:=(hg.block pb h.lt (fun e=>hne e.symm)).trans h1
 obtain ⟨a1,c1,rfl⟩:=own_slice8 hown
 have hne1:=own_notype hown hb (by decide)
 have hK:=h.ok.grown hg (own_kind8 h2)
 refine ⟨by simp [World.cell?,hb],by simp [World.frozen?,hb],⟨⟨a1,c1,?_,?_⟩,h.lo,?_,hK.setCell _ rfl _⟩⟩
 ·have:=Lib.heap_setCell_same (i:=1) hb (.slice a1 (T++S).length c1)
  simpa using this
 ·refine ⟨hown.1,?_⟩
  rcases hown.2 with k | ⟨g,c2,cur,k1,k2,k3,k4⟩
  ·exact Or.inl k
  ·refine Or.inr ⟨g,c2,cur,k1,k2,?_,k4⟩
   rw [Below.heap_setCell _ _ _ _ (fun e=>hne1 (by rw [k1];simp only [Value.ownBlock];exact congrArg some e))]
   exact k3
 ·have hB1:Below u.heap.size u W1:=⟨hg.os.trans h.st.os,hg.tape.trans h.st.tape,hg.output.trans h.st.output,Nat.le_trans h.st.size hg.size,fun k hk=>by
   rw [hg.block k (by have:=h.sz;omega) ?_]
   ·exact h.st.block k hk
   ·intro e
    rcases own_atG h2 with q | ⟨g,q1,q2,_⟩
    ·rw [q] at e;cases e
    ·rw [q1] at e;cases e;omega⟩
  exact hB1.setCell (p:=⟨pb,1,none⟩) h.lo _
def fitB (T:List UInt8):Bool:=decide ((T.length:Int)≤4194304)
def lnT (S:List (List UInt8)):List UInt8:=S.flatten++[10]
abbrev strV (l:List UInt8):Value:=.string ⟨l.toArray⟩
theorem info8:(Tryz.prog.info? 5).map (fun i=>(i.zero,i.size,i.bytes))=some (some (.int .u8 0),1,1):=by kernel_rfl
theorem flat_step (T:List UInt8) (S:List (List UInt8)) (i:Nat) (h:i < S.length):T++(S.take i).flatten++S[i]=T++(S.take (i+1)).flatten∧(T++(S.take i).flatten).length+S[i].length≤T.length+S.flatten.length:=by
 have e:(S.take (i+1)).flatten=(S.take i).flatten++S[i]:=by rw [List.take_succ_eq_append_getElem h,List.flatten_append];simp only [List.flatten_cons,List.flatten_nil,List.append_nil]
 refine ⟨by rw [e];simp,?_⟩
 have e2:S.flatten=(S.take (i+1)).flatten++(S.drop (i+1)).flatten:=by rw [← List.flatten_append,List.take_append_drop]
 rw [e2,e]
 simp only [List.length_append]
 omega
theorem line_any (u:World) (pb sb cap:Nat) (p:Int) (S:List (List UInt8)) (T:List UInt8) (w:World) (h:Pg u pb w p T w) (hs:w.heap[sb]? =some (.cells (S.map strV).toArray 9)) (hl:S.length≤100) (hT:T.length+(lnT S).length≤140737488355328) :
  Calls Tryz.prog 21 #[.pointer (some ⟨pb,0,none⟩),.slice (some ⟨sb,0,none⟩) S.length cap] w fun e w'=>e=.returned (.bool (fitB (T++lnT S)))∧Pg u pb w p (T++lnT S) w':=by
 obtain ⟨i0,hi0,hz0,hz1,hz2⟩:=info_parts info8
 have HK0:Hid (Pg u pb w p (T++(S.take 0).flatten) w):=by rw [List.take_zero,List.flatten_nil,List.append_nil];exact h
 have hsb:sb≠pb:=by
  intro e
  obtain ⟨ao,cap,h1,_⟩:=h.at_
  rw [e,h1] at hs
  injection hs with hs
  injection hs with _ hs
  exact absurd hs (by decide)
 have HSb:Hid (∀ X W,Pg u pb w p X W→W.heap[sb]? =some (.cells (S.map strV).toArray 9)):=fun X W k=>k.cells hs hsb (by decide)
 have hTl:T.length+S.flatten.length+1≤140737488355328:=by simp [lnT] at hT;simp;omega
 have HTl:=hid_of hTl
 obtain ⟨R,hR⟩:∃ R,R=T++lnT S:=⟨_,rfl⟩
 rw [← hR]
 have HR:Hid (R=T++S.flatten++[10]):=by show R=_;rw [hR,lnT,List.append_assoc]
 clear hT hTl hsb h hs hR
 go_enter Tryz.func21,Tryz.ntmps21
 go_wp2_with fail
 go_loopw [9] (fun a W=>∃ i:Nat,i≤S.length∧a=.int .i64 (i:Int)∧Hid (Pg u pb w p (T++(S.take i).flatten) W)) (fun a _=>S.length - (intOf a).toNat)
 case atStart=>exact ⟨0,by omega,rfl,HK0⟩
 case round =>
  clear HK0
  obtain ⟨i,hi,rfl,HK⟩:=hrel
  obtain ⟨ao,c0,q0,q1,q2,q3⟩:=HK.out.cell
  by_cases hlt:i < S.length
  ·have hlt':(i:Int) < (S.length:Int):=by omega
   have hc:wr.cell? ⟨sb,i,none⟩=some (strV S[i]):=by
    have:=HSb.out _ _ HK.out
    simp [World.cell?,this,hlt]
   obtain ⟨hadd,h63⟩:=flat_step T S i hlt
   have HAdd:=hid_of hadd
   have h64:(T++(S.take i).flatten).length+S[i].length≤140737488355328:=by have:=HTl.out;omega
   have HQ3:=hid_of q3
   have HPg:=hid_of HK.out
   clear hadd h63 q3 HK
   generalize T++(S.take i).flatten=X at q1 HQ3 h64 HPg HAdd
   generalize S[i]=s at hc h64 HAdd
   have hsz:(ByteArray.mk s.toArray).size=s.length:=by show s.toArray.size=_;simp
   go_wp2_with (at_builtin;refine Lib.wpList_append_own_string _ rfl _ _ 30 9 rfl u.heap.size 5 i0 Tryz.underlying30 Tryz.underlying9 hi0 hz0 hz1 hz2 _ _ _ rfl HQ3.out ⟨s.toArray⟩ rfl ?c1 ?c2 ?c3 ?_)
   case c1=>rw [hsz];unfold maxLen;omega
   case c2=>rw [hsz];exact h64
   case c3=>exact HPg.out.sz
   intro v1 w1 o1 g1 n1
   replace o1:w1.ownsRow u.heap.size 5 1 v1 (X++s).length (Lib.byteCells (X++s)):=by
    rw [List.length_append,Lib.byteCells_append]
    exact o1
   obtain ⟨a1,c1,rfl⟩:=own_slice8 o1
   obtain ⟨f1,f2,HP⟩:=HPg.out.put (S:=s) q1 o1 g1
   have HP1:=hid_of HP
   clear n1 o1 g1 HP
   go_wp2_with fail
   refine ⟨⟨i+1,by omega,by go_num,?_⟩,by simp [intOf];omega⟩
   rw [← HAdd.out]
   have:=HP1.out
   simp only [List.length_append] at this
   exact this
  ·have hlt':¬ (i:Int) < (S.length:Int):=by omega
   have hX:T++(S.take i).flatten=T++S.flatten:=by rw [List.take_of_length_le (by omega)]
   have h64:(T++S.flatten).length+1≤140737488355328:=by have:=HTl.out;simp only [List.length_append];omega
   rw [hX] at q1 q3 HK
   have HPg:=hid_of (HK.out.alloc (.cells #[.int .u8 10] 5))
   have HQ3:=hid_of (own_belG q3 (bel1 wr (.cells #[.int .u8 10] 5)))
   have hq1:(wr.alloc (.cells #[.int .u8 10] 5)).cell? ⟨pb,1,none⟩=some (.slice ao (T++S.flatten).length c0):=by
    rw [(bel1 wr (.cells #[.int .u8 10] 5)).cell (p:=⟨pb,1,none⟩) HK.out.lt];exact q1
   clear HTl HSb hX q3 HK
   generalize T++S.flatten=X at *
   go_wp2_with (at_builtin;refine wpList_append_own _ rfl _ _ 30 rfl u.heap.size 5 i0 (.int .u8 0) 1 1 Tryz.underlying30 hi0 hz0 hz1 hz2 rfl (by decide) _ _ _ rfl HQ3.out ⟨wr.heap.size,0,none⟩ 1 1 [.int .u8 10] rfl rfl ?c1 ?c2 ?c3 ?c4 ?c5 ?_)
   case c2=>rfl
   case c3=>unfold maxLen;omega
   case c5=>have:=HPg.out.sz;simpa using this
   intro v1 w1 o1 g1 n1
   replace o1:w1.ownsRow u.heap.size 5 1 v1 (X++[10]).length (Lib.byteCells (X++[10])):=by
    rw [List.length_append,Lib.byteCells_append]
    exact o1
   obtain ⟨a1,c1,rfl⟩:=own_slice8 o1
   obtain ⟨f1,f2,HP⟩:=HPg.out.put (S:=[10]) hq1 o1 g1
   obtain ⟨a2,c2,d0,d1,_,_⟩:=HP.cell
   have HP1:=hid_of HP
   simp only [List.length_append,List.length_cons,List.length_nil] at d0 d1 f1 f2
   clear n1 o1 g1 HP
   go_wp2_with fail
   go_ret
   have hl:(R.length:Int)=(X.length:Int)+1:=by rw [HR.out];simp
   refine ⟨retB (by unfold fitB;rw [hl]),?_⟩
   have:=HP1.out
   simp only [List.length_append,List.length_cons,List.length_nil] at this
   rw [← HR.out] at this
   exact this
def flL:List La.Lb→List Value
 | []=>[]
 | c::L=>.string ⟨c.1.toArray⟩::.string ⟨c.2.toArray⟩::flL L
theorem flL_length (L:List La.Lb):(flL L).length=L.length*2:=by
 induction L with
 | nil=>rfl
 | cons c L ih=>simp only [flL,List.length_cons,ih];omega
theorem flL_append (A B:List La.Lb):flL (A++B)=flL A++flL B:=by
 induction A with
 | nil=>rfl
 | cons c A ih=>simp only [List.cons_append,flL,ih]
theorem flL_one (L:List La.Lb):∀ u ∈ flL L,u.oneCell'=true:=by
 induction L with
 | nil=>intro u h;cases h
 | cons c L ih =>
  intro u h
  simp only [flL,List.mem_cons] at h
  rcases h with rfl | rfl | h
  ·rfl
  ·rfl
  ·exact ih u h
theorem flL_get (L:List La.Lb) (i:Nat) (h:i < L.length):(flL L)[i*2]? =some (.string ⟨L[i].1.toArray⟩)∧(flL L)[i*2+1]? =some (.string ⟨L[i].2.toArray⟩):=by
 induction L generalizing i with
 | nil=>simp at h
 | cons c L ih =>
  cases i with
  | zero=>exact ⟨rfl,rfl⟩
  | succ i =>
   have:=ih i (by simpa using h)
   rw [show (i+1)*2=i*2+2 by omega]
   simpa [flL] using this
theorem rowL_cells {W:World} {b o:Nat} {L:List La.Lb} (h:La.RowL W b o L):∀ j u,(flL L)[j]? =some u→W.cell? ((⟨b,o,none⟩:Addr).add j)=some u:=by
 intro j u hj
 have hlt:j < L.length*2:=by
  rcases Nat.lt_or_ge j (L.length*2) with k | k
  ·exact k
  ·rw [List.getElem?_eq_none (by rw [flL_length];exact k)] at hj;cases hj
 have hi:j / 2 < L.length:=by omega
 obtain ⟨g1,g2⟩:=flL_get L (j / 2) hi
 obtain ⟨r1,r2⟩:=h (j / 2) hi
 rw [Addr.add_lit]
 rcases Nat.mod_two_eq_zero_or_one j with k | k
 ·have e:j=j / 2*2:=by omega
  rw [e] at hj ⊢
  rw [g1] at hj
  rw [← hj]
  exact r1
 ·have e:j=j / 2*2+1:=by omega
  rw [e] at hj ⊢
  rw [g2] at hj
  rw [← hj,← Nat.add_assoc]
  exact r2
theorem infoLb:(Tryz.prog.info? 85).map (fun i=>(i.zero,i.size,i.bytes))=some (some (.agg #[.string ⟨#[]⟩,.string ⟨#[]⟩]),2,32):=by kernel_rfl
structure GL (B:Nat) (W0:World) (v:Value) (xs:List La.Lb) (w:World):Prop where
 own:w.ownsRow B 85 2 v xs.length (flL xs)
 below:Below B W0 w
 size:B≤w.heap.size
theorem own_nilL (w:World) (B:Nat):w.ownsRow B 85 2 (.slice none 0 0) ([]:List La.Lb).length (flL []):=⟨rfl,Or.inl ⟨rfl,rfl⟩⟩
theorem gl_form2 {B:Nat} {W0 w:World} {v:Value} {xs:List La.Lb} (h:GL B W0 v xs w):(v=.slice none 0 0∧xs=[])∨∃ g c,v=.slice (some ⟨g,0,none⟩) xs.length c∧xs.length≤c:=by
 rcases h.own.2 with ⟨rfl,hn⟩ | ⟨g,cap,cur,rfl,_,_,h3,_⟩
 ·exact Or.inl ⟨rfl,List.length_eq_zero_iff.1 hn⟩
 ·exact Or.inr ⟨g,cap,rfl,h3⟩
theorem GL.grow {B:Nat} {W0 w w':World} {v v':Value} {xs ys:List La.Lb} (h:GL B W0 v xs w) (hown:w'.ownsRow B 85 2 v' (xs.length+ys.length) (flL xs++flL ys)) (hg:w.grownBy w' v.ownBlock):GL B W0 v' (xs++ys) w':=by
 refine ⟨by rw [List.length_append,flL_append];exact hown,?_,Nat.le_trans h.size hg.size⟩
 refine ⟨hg.os.trans h.below.os,hg.tape.trans h.below.tape,hg.output.trans h.below.output,Nat.le_trans h.below.size hg.size,fun k hk=>?_⟩
 rw [hg.block k (by have:=h.size;omega) ?_]
 ·exact h.below.block k hk
 ·intro e
  rcases own_atG h.own with q | ⟨g,q1,q2,_⟩
  ·rw [q] at e;cases e
  ·rw [q1] at e;cases e;omega
theorem GL.row {B:Nat} {W0 w:World} {v:Value} {xs:List La.Lb} (h:GL B W0 v xs w):∃ ao b cap,v=.slice ao xs.length cap∧(xs≠[]→ao=some ⟨b,0,none⟩)∧La.RowL w b 0 xs:=by
 rcases h.own.2 with ⟨rfl,hn⟩ | ⟨g,cap,cur,rfl,hg,hh,hc,hm,hs,ht⟩
 ·have:xs=[]:=List.length_eq_zero_iff.1 hn
  subst this
  exact ⟨none,0,0,rfl,fun k=>absurd rfl k,fun i hi=>by simp at hi⟩
 ·refine ⟨some ⟨g,0,none⟩,g,cap,rfl,fun _=>rfl,fun i hi=>?_⟩
  obtain ⟨g1,g2⟩:=flL_get xs i hi
  have key:∀ j u,(flL xs)[j]? =some u→w.cell? ⟨g,0+j,none⟩=some u:=fun j u hu=>by
   rw [← ht] at hu
   rw [List.getElem?_take] at hu
   unfold World.cell?
   rw [hh]
   split at hu
   ·simpa using hu
   ·cases hu
  exact ⟨key _ _ g1,by have:=key _ _ g2;rw [← Nat.add_assoc] at this;exact this⟩
theorem SLb.cs {W:World} {v:Value} {L:List La.Lb} (h:SLb W v L):(v=.slice none 0 0∧L=[])∨∃ a cap,v=.slice (some a) L.length cap∧∀ j u,(flL L)[j]? =some u→W.cell? (a.add j)=some u:=by
 rcases h with h | ⟨b,o,cap,h1,_,_,hr⟩ | ⟨a,cap,h1,_,h2⟩
 ·exact Or.inl h
 ·exact Or.inr ⟨_,cap,h1,rowL_cells hr⟩
 ·exact Or.inr ⟨a,cap,h1,fun j u hj=>by rw [h2] at hj;simp [flL] at hj⟩
theorem grow_nilL (n:Nat) (hn:n≤2000) (w:World):Calls Tryz.prog 151 #[.slice none 0 0,.int .i64 (n:Int)] w fun e w'=>∃ v,e=.returned v∧GL w.heap.size w v [] w':=by
 obtain ⟨i0,hi,hz0,hz1,hz2⟩:=info_parts infoLb
 by_cases h0:n=0
 ·subst h0
  go_enter Tryz.func151,Tryz.ntmps151
  go_wp2_with fail
  go_ret
  exact ⟨_,rfl,own_nilL _ _,Below.refl _ _,Nat.le_refl _⟩
 ·have h1:¬ (n:Int) < 0:=by omega
  have h2:(0:Int) < (n:Int):=by omega
  have hrz:∀ ty,(Builtin.append_ #[39,3] ty #[.slice none 0 0,.int .i64 (n:Int)]).run Tryz.prog w =
    .ok (.slice (some ⟨w.heap.size,0,none⟩) (0+n) (grownCap w (0+n) 0 85)) (w.drew.alloc (.cells (([]:List Value).toArray++Builtin.zeroCells (Value.agg #[.string ⟨#[]⟩,.string ⟨#[]⟩]).cells n++Builtin.zeroCells (Value.agg #[.string ⟨#[]⟩,.string ⟨#[]⟩]).cells (grownCap w (0+n) 0 85 - (0+n))) 85)):=fun ty =>
   Lib.run_append_grow_zeros w 39 3 ty 85 i0 (.agg #[.string ⟨#[]⟩,.string ⟨#[]⟩]) .i64 .i64 Tryz.underlying39 Tryz.underlying3 hi hz0 none 0 0 [] (run_firstCells_none w.drew i0.size 0 0 0) n (by omega) (by omega) (by omega) (by omega) (by rw [hz2];omega) (growslice_fits (by omega) (by rw [hz2];omega))
  simp only [Nat.zero_add] at hrz
  have hGn:n≤grownCap w n 0 85:=grownCap_ge w _ _ _
  have hGm:grownCap w n 0 85≤maxLen:=grownCap_le_maxLen w n 0 85 (by unfold maxLen;omega)
  generalize grownCap w n 0 85=G at *
  have hG63:G≤9223372036854775807:=by unfold maxLen at hGm;omega
  obtain ⟨cur,hcur⟩:∃ cur,([]:List Value).toArray++Builtin.zeroCells (Value.agg #[.string ⟨#[]⟩,.string ⟨#[]⟩]).cells n++Builtin.zeroCells (Value.agg #[.string ⟨#[]⟩,.string ⟨#[]⟩]).cells (G - n)=cur:=⟨_,rfl⟩
  have hsz:cur.size=G*2:=by
   rw [← hcur]
   simp [size_zeroCells,Value.cells]
   omega
  rw [hcur] at hrz
  clear hcur
  have hfin:GL w.heap.size w (.slice (some ⟨w.heap.size,0,none⟩) 0 G) [] (w.drew.alloc (.cells cur 85)) :=
   ⟨⟨rfl,Or.inr ⟨w.heap.size,G,cur,rfl,Nat.le_refl _,new_1 w.drew _,Nat.zero_le _,hGm,hsz,rfl⟩⟩,((Below.refl _ _).drew).alloc (Nat.le_refl _) _,by simp⟩
  have HF:Hid _:=hfin
  clear hfin hsz
  go_enter Tryz.func151,Tryz.ntmps151
  go_wp2_with (at_builtin;refine Lib.wpList_append_run _ rfl _ _ _ _ rfl _ _ rfl rfl _ _ (hrz _) ?_)
  all_goals
   go_ret
   exact ⟨_,rfl,HF.out⟩
theorem concat_anyL (sb:Nat) (v v':Value) (A C:List La.Lb) (hlA:A.length≤1000) (hlC:C.length≤1000) (w:World) (c0:w.cell? ⟨sb,0,none⟩=some v) (c1:w.cell? ⟨sb,1,none⟩=some v') (hA:SLb w v A) (hC:SLb w v' C) :
  Calls Tryz.prog 120 #[.slice (some ⟨sb,0,none⟩) 2 2] w fun e w'=>∃ m,e=.returned m∧GL w.heap.size w m (A++C) w':=by
 obtain ⟨i0,hi,hz0,hz1,hz2⟩:=info_parts infoLb
 have HG:Hid (∀ W,_):=grow_nilL (A.length+C.length) (by omega)
 have HA:Hid (SLb w v A):=hA
 have HC:Hid (SLb w v' C):=hC
 have HC0:Hid (∀ W,Below w.heap.size w W→W.cell? ⟨sb,0,none⟩=some v):=fun W hb=>(hb.cell (p:=⟨sb,0,none⟩) (lt_of_cell c0)).trans c0
 have HC1:Hid (∀ W,Below w.heap.size w W→W.cell? ⟨sb,1,none⟩=some v'):=fun W hb=>(hb.cell (p:=⟨sb,1,none⟩) (lt_of_cell c1)).trans c1
 obtain ⟨ao,cap,hv⟩:=hA.form
 obtain ⟨ao',cap',hv'⟩:=hC.form
 subst hv hv'
 clear hA hC
 have s0:wrap64 ((0:Int)+(A.length:Int))=(A.length:Int):=by unfold wrap64;omega
 have s1:wrap64 ((A.length:Int)+(C.length:Int))=((A.length+C.length:Nat):Int):=by unfold wrap64;omega
 have n0:¬ (A.length:Int) < 0:=by omega
 have n1:¬ ((A.length+C.length:Nat):Int) < 0:=by omega
 go_enter Tryz.func120,Tryz.ntmps120
 go_wp2_with fail
 go_loopw [3,11] (fun a c wr=>∃ k:Nat,wr=w∧c=.int .i64 (k:Int)∧((k=0∧a=.int .i64 0)∨(k=1∧a=.int .i64 (A.length:Int))∨(k=2∧a=.int .i64 ((A.length+C.length:Nat):Int)))) (fun _ c _=>2 - (intOf c).toNat)
 case atStart=>exact ⟨0,rfl,rfl,Or.inl ⟨rfl,rfl⟩⟩
 case round =>
  obtain ⟨k,hwr,rfl,(⟨rfl,rfl⟩ | ⟨rfl,rfl⟩ | ⟨rfl,rfl⟩)⟩:=hrel <;> obtain rfl:w=wr:=hwr.symm <;> clear hwr
  ·go_wp2_with fail
   exact ⟨⟨1,True.intro,by first | rfl | simp,Or.inr (Or.inl ⟨rfl,by first | rfl | simp⟩)⟩,by simp [intOf]⟩
  ·go_wp2_with fail
   exact ⟨⟨2,True.intro,by first | rfl | simp,Or.inr (Or.inr ⟨rfl,by first | rfl | simp⟩)⟩,by simp [intOf]⟩
  ·generalize A.length+C.length=n at *
   go_wp2_with (go_at_call 151;refine (HG.out _).mono ?_;rintro e w1 ⟨m,rfl,hg⟩)
   have HGm:Hid (GL w.heap.size w m [] w1):=hg
   clear hg
   go_loopw [6,27] (fun a c w2=>∃ (k:Nat) (D:List La.Lb),c=.int .i64 (k:Int)∧Hid (GL w.heap.size w a D w2)∧Hid ((k=0∧D=[])∨(k=1∧D=A)∨(k=2∧D=A++C))) (fun _ c _=>2 - (intOf c).toNat)
   case atStart=>exact ⟨0,[],rfl,HGm,Or.inl ⟨rfl,rfl⟩⟩
   case round =>
    obtain ⟨k,D,rfl,hG,hk⟩:=hrel
    have d0:=HC0.out _ hG.out.below
    have d1:=HC1.out _ hG.out.below
    rcases hk.out with ⟨rfl,rfl⟩ | ⟨rfl,hD⟩ | ⟨rfl,hD⟩
    ·rcases (HA.out.below hG.out.below).cs with ⟨hv0,hL0⟩ | ⟨aA,cA,hvA,hRA⟩
     ·rw [hv0] at d0
      rcases gl_form2 hG.out with ⟨rfl,hD0⟩ | ⟨gv,cv,rfl,hcv⟩
      ·have HG2:Hid (GL w.heap.size w (.slice none 0 0) A wr):=by unfold Hid;rw [hL0];simpa using hG.out
       clear hG
       go_wp2_with fail
       exact ⟨⟨1,_,by first | rfl | simp,HG2,Or.inr (Or.inl ⟨rfl,rfl⟩)⟩,by simp [intOf]⟩
      ·have HG2:Hid (GL w.heap.size w (.slice (some ⟨gv,0,none⟩) ([]:List La.Lb).length cv) A wr):=by unfold Hid;rw [hL0];simpa using hG.out
       clear hG
       go_wp2_with fail
       exact ⟨⟨1,_,by first | rfl | simp,HG2,Or.inr (Or.inl ⟨rfl,rfl⟩)⟩,by simp [intOf]⟩
     ·obtain ⟨rfl,rfl⟩:ao=some aA∧cA=cap:=by have h:=hvA;simp at h;exact ⟨h.1,h.2.symm⟩
      clear hvA
      have HcA:=hid_of hRA
      have hgs:=hG.out.size
      go_wp2_with (at_builtin;refine wpList_append_own _ rfl _ _ 39 rfl w.heap.size 85 i0 (.agg #[.string ⟨#[]⟩,.string ⟨#[]⟩]) 2 32 Tryz.underlying39 hi hz0 hz1 hz2 rfl (by decide) _ _ _ rfl hG.out.own aA A.length cA (flL A) rfl (flL_length A) HcA.out (flL_one A) (by unfold maxLen;first | omega | (simp;omega)) (by first | omega | (simp;omega)) hgs ?_;intro v2 w2 hown hgrow hnil;have hg2:=hG.out.grow (ys:=A) hown hgrow;clear hown hgrow hnil)
      exact ⟨⟨1,_,by first | rfl | simp,hg2,Or.inr (Or.inl ⟨rfl,List.nil_append _⟩)⟩,by simp [intOf]⟩
    ·subst hD
     rcases (HC.out.below hG.out.below).cs with ⟨hv0,hL0⟩ | ⟨aA,cA,hvA,hRA⟩
     ·rw [hv0] at d1
      rcases gl_form2 hG.out with ⟨rfl,hD0⟩ | ⟨gv,cv,rfl,hcv⟩
      ·have HG2:Hid (GL w.heap.size w (.slice none 0 0) (D++C) wr):=by unfold Hid;rw [hL0];simpa using hG.out
       clear hG
       go_wp2_with fail
       exact ⟨⟨2,_,by first | rfl | simp,HG2,Or.inr (Or.inr ⟨rfl,rfl⟩)⟩,by simp [intOf]⟩
      ·have HG2:Hid (GL w.heap.size w (.slice (some ⟨gv,0,none⟩) D.length cv) (D++C) wr):=by unfold Hid;rw [hL0];simpa using hG.out
       clear hG
       go_wp2_with fail
       exact ⟨⟨2,_,by first | rfl | simp,HG2,Or.inr (Or.inr ⟨rfl,rfl⟩)⟩,by simp [intOf]⟩
     ·obtain ⟨rfl,rfl⟩:ao'=some aA∧cA=cap':=by have h:=hvA;simp at h;exact ⟨h.1,h.2.symm⟩
      clear hvA
      have HcA:=hid_of hRA
      have hgs:=hG.out.size
      go_wp2_with (at_builtin;refine wpList_append_own _ rfl _ _ 39 rfl w.heap.size 85 i0 (.agg #[.string ⟨#[]⟩,.string ⟨#[]⟩]) 2 32 Tryz.underlying39 hi hz0 hz1 hz2 rfl (by decide) _ _ _ rfl hG.out.own aA C.length cA (flL C) rfl (flL_length C) HcA.out (flL_one C) (by unfold maxLen;first | omega | (simp;omega)) (by first | omega | (simp;omega)) hgs ?_;intro v2 w2 hown hgrow hnil;have hg2:=hG.out.grow (ys:=C) hown hgrow;clear hown hgrow hnil)
      exact ⟨⟨2,_,by first | rfl | simp,hg2,Or.inr (Or.inr ⟨rfl,rfl⟩)⟩,by simp [intOf]⟩
    ·go_wp2_with fail
     go_ret
     exact ⟨_,rfl,hD ▸ hG.out⟩
def seT (d:La.Ds) (en:List UInt8) (M:List La.Lb) (nu:List UInt8):List UInt8:=lnT [La.printT (d.name++en) (d.labels++M),[32],nu]
abbrev dsV (d:La.Ds) (lv:Value):Value:=.agg #[.int .i64 d.kind,.string ⟨d.name.toArray⟩,.string ⟨d.help.toArray⟩,lv]
structure Sho (d:La.Ds) (M:List La.Lb):Prop where
 n:d.name.length≤1000
 h:d.help.length≤2000
 l:(d.labels++M).length≤100
 v:∀ a ∈ d.labels++M,a.1.length≤2000∧a.2.length≤2000
theorem escL_len (q:Bool) (l:List UInt8):(La.escL q l).length≤2*l.length:=by
 induction l with
 | nil=>simp [La.escL]
 | cons b r ih =>
  rw [La.escL,List.length_append,List.length_cons]
  have:(La.esc1 q b).length≤2:=by
   unfold La.esc1
   split
   ·simp
   ·split <;> simp
  omega
theorem prB_len (L:List La.Lb):∀ f,(∀ a ∈ L,a.1.length≤2000∧a.2.length≤2000)→(La.prB f L).length≤L.length*6004:=by
 induction L with
 | nil=>intro f _;simp [La.prB]
 | cons a r ih =>
  intro f h
  have h1:=ih false (fun x hx=>h x (List.mem_cons_of_mem _ hx))
  have h2:=h a List.mem_cons_self
  have h3:=escL_len true a.2
  rw [La.prB,List.length_cons,List.length_append,List.length_cons,La.lbT]
  simp only [List.length_append,List.length_cons,List.length_nil]
  omega
theorem Sho.len {d:La.Ds} {M:List La.Lb} (h:Sho d M) (en:List UInt8) (he:en.length≤100):(La.printT (d.name++en) (d.labels++M)).length≤700000:=by
 have h1:=prB_len (d.labels++M) true h.v
 have h2:=h.l
 have h3:=h.n
 have h4:(La.prB true (d.labels++M)).length≤600400:=by omega
 unfold La.printT
 rw [List.length_append,List.length_append,List.length_append]
 split
 ·simp;omega
 ·simp;omega
theorem seT_len {d:La.Ds} {M:List La.Lb} (h:Sho d M) (en nu:List UInt8) (he:en.length≤100) (hn:nu.length≤1000):(seT d en M nu).length≤800000:=by
 have:=h.len en he
 unfold seT lnT
 simp only [List.flatten_cons,List.flatten_nil,List.length_append,List.length_cons,List.length_nil]
 omega
theorem series_any (u:World) (pb:Nat) (p:Int) (T:List UInt8) (d:La.Ds) (lv mv:Value) (en nu:List UInt8) (M:List La.Lb) (w:World) (h:Pg u pb w p T w) (hl:SLb u lv d.labels) (hm:SLb w mv M) (hs:Sho d M) (he:en.length≤100) (hn:nu.length≤1000) (hT:T.length≤100000000) :
  Calls Tryz.prog 82 #[.pointer (some ⟨pb,0,none⟩),dsV d lv,.string ⟨en.toArray⟩,.string ⟨nu.toArray⟩,mv] w fun e w'=>e=.returned (.bool (fitB (T++seT d en M nu)))∧Pg u pb w p (T++seT d en M nu) w':=by
 have hsl:=hs.len en he
 have hll:d.labels.length≤100∧M.length≤100:=by have:=hs.l;rw [List.length_append] at this;omega
 have hadd:∀ W,(Op.stringOp .add ⟨d.name.toArray⟩ ⟨en.toArray⟩).run Tryz.prog W=.ok (.string ⟨(d.name++en).toArray⟩) W:=fun W=>La.sadd _ _ (by have:=hs.n;omega) W
 have hse:=seT_len hs en nu he hn
 obtain ⟨ao,cap,rfl⟩:=hl.form
 obtain ⟨mo,mcap,rfl⟩:=hm.form
 obtain ⟨W1,hW1⟩:∃ W1,W1=(w.alloc (.cells #[.int .i64 d.kind,.string ⟨d.name.toArray⟩,.string ⟨d.help.toArray⟩,.slice ao d.labels.length cap] 41)).alloc (.cells #[.slice ao d.labels.length cap,.slice mo M.length mcap] 39):=⟨_,rfl⟩
 have hb1:Below w.heap.size w W1:=by rw [hW1];exact bt (bel1 _ _) (bel1 _ _)
 have hP1:=h.below hb1
 have k0:W1.cell? ⟨w.heap.size+1,0,none⟩=some (.slice ao d.labels.length cap):=by rw [hW1];simp [go_sem]
 have k1:W1.cell? ⟨w.heap.size+1,1,none⟩=some (.slice mo M.length mcap):=by rw [hW1];simp [go_sem]
 have k2:W1.cell? ⟨w.heap.size,1,none⟩=some (.string ⟨d.name.toArray⟩):=by rw [hW1];simp [go_sem]
 have HC:La.HidC _ _ _ _ _:=concat_anyL (w.heap.size+1) _ _ d.labels M (by omega) (by omega) W1 k0 k1 (hl.below hP1.st) (hm.below hb1)
 have HPr:Hid (∀ (ao:Option Addr) (b cap:Nat) (W:World),((d.labels++M)≠[]→ao=some ⟨b,0,none⟩)→La.RowL W b 0 (d.labels++M)→Calls Tryz.prog 121 #[.string ⟨(d.name++en).toArray⟩,.slice ao (d.labels++M).length cap] W fun r w'=>r=.returned (.string ⟨(La.printT (d.name++en) (d.labels++M)).toArray⟩)∧Below W.heap.size W w') :=
  fun ao b cap W h1 h2=>La.cprint_any _ ao b 0 cap _ h1 (by have:=hs.l;omega) (fun a ha=>by have:=(hs.v a ha).2;omega) (by omega) W h2
 have HLn:Hid (∀ (sb:Nat) (W:World),Pg u pb w p T W→W.heap[sb]? =some (.cells #[.string ⟨(La.printT (d.name++en) (d.labels++M)).toArray⟩,.string ⟨#[32]⟩,.string ⟨nu.toArray⟩] 9)→Calls Tryz.prog 21 #[.pointer (some ⟨pb,0,none⟩),.slice (some ⟨sb,0,none⟩) 3 3] W fun e w'=>e=.returned (.bool (fitB (T++seT d en M nu)))∧Pg u pb w p (T++seT d en M nu) w') :=
  fun sb W h1 h2=>by
   have q:=line_any u pb sb 3 p [La.printT (d.name++en) (d.labels++M),[32],nu] T W h1.re h2 (by simp) (by rw [← seT];omega)
   rw [← seT] at q
   refine Calls.mono q ?_
   rintro e w' ⟨rfl,q⟩
   exact ⟨rfl,h1.then q⟩
 have HW1:=hid_of hW1
 have HP1:=hid_of hP1
 have HK2:=hid_of k2
 clear h hl hm hs hW1 hb1 hP1 k0 k1 k2 hsl hse hll hT he hn
 generalize La.printT (d.name++en) (d.labels++M)=Y at HPr HLn
 generalize T++seT d en M nu=R at HLn ⊢
 generalize d.labels++M=L at HPr HC
 generalize d.name++en=nn at HPr hadd
 go_enter Tryz.func82,Tryz.ntmps82
 go_wp2_with fail
 rw [← HW1.out]
 refine (HC.out).mono ?_
 rintro e W2 ⟨m,rfl,hg⟩
 obtain ⟨a2,b2,c2,rfl,ha2,hr2⟩:=hg.row
 have hk2:W2.cell? ⟨w.heap.size,1,none⟩=some (.string ⟨d.name.toArray⟩):=(hg.below.cell (p:=⟨w.heap.size,1,none⟩) (lt_of_cell HK2.out)).trans HK2.out
 have HP2:=hid_of (HP1.out.below hg.below)
 have D2:La.HidC _ _ _ _ _:=HPr.out a2 b2 c2 W2 ha2 hr2
 clear hg ha2 hr2 HC HPr HW1 HP1 HK2
 go_wp2_with fail
 refine (D2.out).mono ?_
 rintro e W3 ⟨rfl,hb3⟩
 have HP4:=hid_of ((HP2.out.below hb3).alloc (.cells #[.string ⟨Y.toArray⟩,.string ⟨#[32]⟩,.string ⟨nu.toArray⟩] 9))
 have D4:La.HidC _ _ _ _ _:=HLn.out W3.heap.size _ HP4.out (new_1 W3 _)
 clear D2 HP2 hb3 hk2 HLn
 go_wp2_with fail
 refine (D4.out).mono ?_
 rintro e W5 ⟨rfl,hP5⟩
 go_wp2_with fail
 go_ret
 exact ⟨rfl,hP5⟩
end Go.Proofs.YtfkbjdgbpenflaaGreatDoor
