/- RULES: THE READER'S MATHEMATICS. Own work of the verifier. -/
import Derived.Test.YtlgkfeeclgcgbaaGreatDoorZAN
import Derived.Test.YtlgkfeeclgcgbaaGreatDoorZAS
namespace Go.Proofs.YtlgkfeeclgcgbaaGreatDoor.Ru
open Go.RowKit Me
inductive RT where
 | mk (k:Int) (x:Nat) (nm:List UInt8) (lb:List La.Lb) (w n d:Int) (ar:List RT)
abbrev RT.zero:RT:=.mk 0 0 [] [] 0 0 0 []
theorem RT.ind {P:RT→Prop} (h:∀ k x nm lb w n d ar,(∀ a ∈ ar,P a)→P (.mk k x nm lb w n d ar)) (t:RT):P t :=
 RT.rec (motive_1:=P) (motive_2:=fun ar=>∀ a ∈ ar,P a) (fun k x nm lb w n d ar ih=>h k x nm lb w n d ar ih) (fun a ha=>by cases ha)
  (fun t ar ht hr a ha=>by
   rcases List.mem_cons.1 ha with rfl | ha
   ·exact ht
   ·exact hr a ha) t
structure St where
 a:Nat
 e:Nat
 n:Nat
def rst (T:List UInt8) (s:St):List UInt8:=if s.e=0 then T.drop s.a else []
def fl (s:St) (e a:Nat):St:=if s.e=0 then ⟨a,e,s.n⟩ else s
def ps (s:St) (k:Nat):St:=if s.e=0 then ⟨s.a+k,s.e,s.n⟩ else s
def isDg (c:UInt8):Bool:=decide (48≤c.toNat) && decide (c.toNat≤57)
def isLt (c:UInt8):Bool:=decide (97≤c.toNat) && decide (c.toNat≤122)
def isNm (c:UInt8):Bool:=isDg c || decide ((0:Int)≤Lib.indexByte [46,101,45] c)
def isSg (c:UInt8):Bool:=isLt c || decide ((0:Int)≤Lib.indexByte [43,45,42,47,60,62,61,33] c)
def mst1 (T:List UInt8) (s:St) (c:UInt8):St:=ps (if La.preB (rst T s) [c] then s else fl s 5 s.a) 1
def mst (T:List UInt8) (l:List UInt8) (s:St):St:=l.foldl (mst1 T) s
def rowF (p:UInt8→Bool) (T:List UInt8) (s:St):List UInt8:=(rst T s).takeWhile p
def kwT:List (Nat × List UInt8):=[(0,[]),(1,[]),(2,[116,111,116,97,108]),(2,[114,97,116,101]),(2,[99,111,117,110,116]),(2,[115,117,109]),(2,[108,101,97,115,116]),(2,[103,114,101,97,116,101,115,116]),(3,[113,117,97,110,116,105,108,101]),
 (4,[43]),(4,[45]),(4,[42]),(4,[47]),(5,[60]),(5,[60,61]),(5,[62]),(5,[62,61]),(5,[61,61]),(5,[33,61]),(6,[97,110,100]),(6,[111,114]),(7,[110,111,116])]
def kwA (i:Nat):Nat × List UInt8:=kwT.getD i (0,[])
def kwI (k:Int):Nat × List UInt8:=if 0≤k∧k < 22 then kwA k.toNat else (0,[])
def hitK (sh:List Nat) (r:List UInt8) (i:Nat):Bool:=sh.contains (kwA i).1 && ((kwA i).2 == r)
def fndK (sh:List Nat) (r:List UInt8):Option Nat:=(List.range 22).find? (hitK sh r)
def namF (p:UInt8→Bool) (sh:List Nat) (T:List UInt8) (s:St):Nat × St :=
 match fndK sh (rowF p T s) with
 | some i=>(i,ps s (rowF p T s).length)
 | none=>(0,fl s 5 s.a)
def valD (r:List UInt8):Nat:=r.foldl (fun n c=>n*10+(c.toNat - 48)) 0
def decN (r:List UInt8):Option Nat:=if r≠[]∧valD r < 9223372036854775808∧Lib.itoa (valD r:Int)=r then some (valD r) else none
def cntF (T:List UInt8) (s:St):Nat × St :=
 match decN (rowF isDg T s) with
 | some n=>(n,ps s (rowF isDg T s).length)
 | none=>(0,fl s 5 s.a)
def shrB (n d:Int):Bool:=decide (1≤d) && decide (0≤n) && decide (n≤d)
def winB (n:Int):Bool:=decide (1≤n) && decide (n≤4611686018427387904)
def shrF (T:List UInt8) (s:St):Nat × Nat × St :=
 let c1:=cntF T s
 let s2:=mst T [47] c1.2
 let c3:=cntF T s2
 (c1.1,c3.1,mst T [44,32] (if shrB c1.1 c3.1 then c3.2 else fl c3.2 1 s2.a))
def winF (T:List UInt8) (s:St):Nat × St :=
 let c1:=cntF T s
 (c1.1,if winB c1.1 then c1.2 else fl c1.2 1 s.a)
def sLf (l:List UInt8):Nat→Bool→Nat→Nat
 | 0,_,_=>l.length
 | f+1,q,i =>
  if i < l.length then
   if (l.getD i 0).toNat=34 then sLf l f (!q) (i+1)
   else if (q && decide ((l.getD i 0).toNat=92))=true then sLf l f q (i+2)
   else if (!q && La.preB (l.drop i) [44,32])=true then i
   else sLf l f q (i+1)
  else l.length
def sLen (l:List UInt8):Nat:=sLf l (l.length+1) false 0
def serF (T:List UInt8) (s:St):List UInt8 × List La.Lb × St :=
 let r:=rst T s
 let n:=sLen r
 match La.parR (r.take n) with
 | .error (z,k)=>([],[],mst T [44,32] (ps (fl s (if z.toNat=0 then 5 else z.toNat) (s.a+k)) n))
 | .ok (nm,L)=>(nm,L,mst T [44,32] (ps s n))
def bgn:List UInt8→Nat
 | []=>0
 | c::_=>if c.toNat=40 then 1 else if (decide (c.toNat=45) || isDg c)=true then 2 else if isLt c=true then 3 else 0
def numF (PR:List UInt8→Option Nat) (T:List UInt8) (s:St):RT × St :=
 match PR (rowF isNm T s) with
 | some x=>(.mk 1 x [] [] 0 0 0 [],ps s (rowF isNm T s).length)
 | none=>(.zero,fl s 5 s.a)
def twoF (rec:St→RT × St) (T:List UInt8) (s:St):RT × St :=
 let x:=rec (mst T [40] s)
 let k:=namF isSg [4,5,6] T (mst T [32] x.2)
 let y:=rec (mst T [32] k.2)
 (.mk k.1 0 [] [] 0 0 0 [x.1,y.1],mst T [41] y.2)
def wrdF (rec:St→RT × St) (T:List UInt8) (s:St):RT × St :=
 let k:=namF isLt [2,3,7] T s
 let s1:=mst T [40] k.2
 if (kwA k.1).1=7 then
  let x:=rec s1
  (.mk k.1 0 [] [] 0 0 0 [x.1],mst T [41] x.2)
 else
  let q:=if (kwA k.1).1=3 then shrF T s1 else (0,0,s1)
  let r:=serF T q.2.2
  let w:=winF T r.2.2
  (.mk k.1 0 r.1 r.2.1 w.1 q.1 q.2.1 [],mst T [41] w.2)
def beg (s:St):St:=let s1:=if s.n=512 then fl s 3 s.a else s;⟨s1.a,s1.e,s1.n+1⟩
def stpF (PR:List UInt8→Option Nat) (rec:St→RT × St) (T:List UInt8) (s:St):RT × St :=
 let s2:=beg s
 match bgn (rst T s2) with
 | 1=>twoF rec T s2
 | 2=>numF PR T s2
 | 3=>wrdF rec T s2
 | _=>(.zero,fl s2 5 s2.a)
def rulF (PR:List UInt8→Option Nat) (T:List UInt8):Nat→St→RT × St
 | 0=>stpF PR (fun s=>(.zero,s)) T
 | f+1=>stpF PR (rulF PR T f) T
structure Ok (T:List UInt8) (s:St):Prop where
 a:s.a≤T.length
 n:s.n≤2000
 t:T.length≤65536
theorem rst_le (T:List UInt8) (s:St):(rst T s).length≤T.length:=by unfold rst;split <;> simp
theorem fl_err {s:St} (h:s.e≠0) (e a:Nat):fl s e a=s:=by unfold fl;rw [if_neg h]
theorem ps_err {s:St} (h:s.e≠0) (k:Nat):ps s k=s:=by unfold ps;rw [if_neg h]
theorem fl_e (s:St) (e a:Nat) (h:e≠0):(fl s e a).e≠0:=by unfold fl;split <;> assumption
theorem Ok.fl {T:List UInt8} {s:St} (h:Ok T s) {e a:Nat} (ha:s.e=0→a≤T.length):Ok T (fl s e a):=by
 unfold Ru.fl
 split
 ·rename_i k;exact ⟨ha k,h.n,h.t⟩
 ·exact h
theorem Ok.ps {T:List UInt8} {s:St} (h:Ok T s) {k:Nat} (hk:k≤(rst T s).length):Ok T (ps s k):=by
 unfold Ru.ps
 split
 ·rename_i k0
  have:=h.a
  unfold rst at hk
  rw [if_pos k0,List.length_drop] at hk
  exact ⟨by show s.a+k≤T.length;omega,h.n,h.t⟩
 ·exact h
theorem fl_n (s:St) (e a:Nat):(fl s e a).n=s.n:=by unfold fl;split <;> rfl
theorem ps_n (s:St) (k:Nat):(ps s k).n=s.n:=by unfold ps;split <;> rfl
theorem ps_e (s:St) (k:Nat):(ps s k).e=s.e:=by unfold ps;split <;> rfl
theorem fl_e0 (s:St) (e a:Nat) (h:(fl s e a).e=0):s.e=0:=by
 unfold fl at h
 by_cases k:s.e=0
 ·exact k
 ·rw [if_neg k] at h;exact h
theorem Ok.mst1 {T:List UInt8} {s:St} (h:Ok T s) (c:UInt8):Ok T (mst1 T s c):=by
 unfold Ru.mst1
 by_cases q:La.preB (rst T s) [c]=true
 ·rw [if_pos q]
  refine h.ps ?_
  unfold La.preB at q
  rw [Bool.and_eq_true,decide_eq_true_eq] at q
  exact q.1
 ·rw [if_neg q,ps_err (fl_e _ _ _ (by decide))]
  exact h.fl (fun _=>h.a)
theorem Ok.mst {T:List UInt8} {s:St} (h:Ok T s) (l:List UInt8):Ok T (mst T l s):=by
 induction l generalizing s with
 | nil=>exact h
 | cons c l ih=>exact ih (h.mst1 c)
theorem mst1_n (T:List UInt8) (s:St) (c:UInt8):(mst1 T s c).n=s.n:=by
 unfold mst1
 rw [ps_n]
 split
 ·rfl
 ·exact fl_n _ _ _
theorem mst_n (T:List UInt8) (l:List UInt8) (s:St):(mst T l s).n=s.n:=by
 induction l generalizing s with
 | nil=>rfl
 | cons c l ih=>exact (ih _).trans (mst1_n _ _ _)
theorem mst1_e0 (T:List UInt8) (s:St) (c:UInt8) (h:(mst1 T s c).e=0):s.e=0:=by
 unfold mst1 at h
 rw [ps_e] at h
 split at h
 ·exact h
 ·exact fl_e0 _ _ _ h
theorem mst_e0 (T:List UInt8) (l:List UInt8) (s:St) (h:(mst T l s).e=0):s.e=0:=by
 induction l generalizing s with
 | nil=>exact h
 | cons c l ih=>exact mst1_e0 _ _ _ (ih _ h)
theorem rowF_le (p:UInt8→Bool) (T:List UInt8) (s:St):(rowF p T s).length≤(rst T s).length:=by
 unfold rowF
 exact (List.takeWhile_sublist _).length_le
theorem Ok.namF {T:List UInt8} {s:St} (h:Ok T s) (p:UInt8→Bool) (sh:List Nat):Ok T (namF p sh T s).2:=by
 unfold Ru.namF
 split
 ·exact h.ps (rowF_le p T s)
 ·exact h.fl (fun _=>h.a)
theorem namF_n (p:UInt8→Bool) (sh:List Nat) (T:List UInt8) (s:St):(namF p sh T s).2.n=s.n:=by
 unfold namF
 split
 ·exact ps_n _ _
 ·exact fl_n _ _ _
theorem namF_e0 (p:UInt8→Bool) (sh:List Nat) (T:List UInt8) (s:St) (h:(namF p sh T s).2.e=0):s.e=0:=by
 unfold namF at h
 split at h
 ·rw [ps_e] at h;exact h
 ·exact fl_e0 _ _ _ h
theorem Ok.cntF {T:List UInt8} {s:St} (h:Ok T s):Ok T (cntF T s).2:=by
 unfold Ru.cntF
 split
 ·exact h.ps (rowF_le isDg T s)
 ·exact h.fl (fun _=>h.a)
theorem cntF_n (T:List UInt8) (s:St):(cntF T s).2.n=s.n:=by
 unfold cntF
 split
 ·exact ps_n _ _
 ·exact fl_n _ _ _
theorem cntF_e0 (T:List UInt8) (s:St) (h:(cntF T s).2.e=0):s.e=0:=by
 unfold cntF at h
 split at h
 ·rw [ps_e] at h;exact h
 ·exact fl_e0 _ _ _ h
end Go.Proofs.YtlgkfeeclgcgbaaGreatDoor.Ru
/- RULES: THE READER IN MEMORY: rest, fail, pass. Own work of the verifier. -/
set_option maxHeartbeats 1000000
namespace Go.Proofs.YtlgkfeeclgcgbaaGreatDoor.Ru
open Go.RowKit Me
structure Rd (T:List UInt8) (rb:Nat) (u w:World) (s:St) (W:World):Prop where
 st:Below u.heap.size u W
 lo:u.heap.size≤rb
 ex:La.Ex rb w W
 hb:rb < w.heap.size
 at_:W.heap[rb]? =some (.cells #[.string ⟨T.toArray⟩,.int .i64 (s.a:Int),.int .i64 (s.e:Int),.int .i64 (s.n:Int)] 120)
theorem Rd.below {T:List UInt8} {rb:Nat} {u w:World} {s:St} {W W1:World} (h:Rd T rb u w s W) (hb:Below W.heap.size W W1):Rd T rb u w s W1 :=
 ⟨bt h.st hb,h.lo,h.ex.trans (La.Ex.of hb),h.hb,(hb.block rb (Array.getElem?_eq_some_iff.1 h.at_).1).trans h.at_⟩
theorem Rd.re {T:List UInt8} {rb:Nat} {u w:World} {s:St} {W:World} (h:Rd T rb u w s W):Rd T rb u W s W:=⟨h.st,h.lo,La.Ex.refl _ _,(Array.getElem?_eq_some_iff.1 h.at_).1,h.at_⟩
theorem Rd.then {T:List UInt8} {rb:Nat} {u w:World} {s s1:St} {W W1:World} (h:Rd T rb u w s W) (k:Rd T rb u W s1 W1):Rd T rb u w s1 W1:=⟨k.st,k.lo,h.ex.trans k.ex,h.hb,k.at_⟩
theorem Rd.lt {T:List UInt8} {rb:Nat} {u w:World} {s:St} {W:World} (h:Rd T rb u w s W):rb < W.heap.size:=(Array.getElem?_eq_some_iff.1 h.at_).1
theorem four_cells {W:World} {g:Nat} {x y z u:Value} {t:TypeId} (h:W.heap[g]? =some (.cells #[x,y,z,u] t)):(W.cell? ⟨g,0,none⟩=some x∧W.cell? ⟨g,1,none⟩=some y∧W.cell? ⟨g,2,none⟩=some z∧W.cell? ⟨g,3,none⟩=some u)∧W.frozen? ⟨g,1,none⟩=false∧W.frozen? ⟨g,2,none⟩=false∧W.frozen? ⟨g,3,none⟩=false:=by
 refine ⟨⟨?_,?_,?_,?_⟩,?_,?_,?_⟩ <;> simp [World.cell?,World.frozen?,h]
theorem Rd.set1 {T:List UInt8} {rb:Nat} {u w:World} {s:St} {W:World} (h:Rd T rb u w s W) (a:Nat):Rd T rb u w ⟨a,s.e,s.n⟩ (W.setCell ⟨rb,1,none⟩ (.int .i64 (a:Int))):=by
 refine ⟨h.st.setCell (p:=⟨rb,1,none⟩) h.lo _,h.lo,h.ex.set _ _,h.hb,?_⟩
 have:=Lib.heap_setCell_same (i:=1) h.at_ (.int .i64 (a:Int))
 simpa using this
theorem Rd.set2 {T:List UInt8} {rb:Nat} {u w:World} {s:St} {W:World} (h:Rd T rb u w s W) (e:Nat):Rd T rb u w ⟨s.a,e,s.n⟩ (W.setCell ⟨rb,2,none⟩ (.int .i64 (e:Int))):=by
 refine ⟨h.st.setCell (p:=⟨rb,2,none⟩) h.lo _,h.lo,h.ex.set _ _,h.hb,?_⟩
 have:=Lib.heap_setCell_same (i:=2) h.at_ (.int .i64 (e:Int))
 simpa using this
theorem Rd.set3 {T:List UInt8} {rb:Nat} {u w:World} {s:St} {W:World} (h:Rd T rb u w s W) (n:Nat):Rd T rb u w ⟨s.a,s.e,n⟩ (W.setCell ⟨rb,3,none⟩ (.int .i64 (n:Int))):=by
 refine ⟨h.st.setCell (p:=⟨rb,3,none⟩) h.lo _,h.lo,h.ex.set _ _,h.hb,?_⟩
 have:=Lib.heap_setCell_same (i:=3) h.at_ (.int .i64 (n:Int))
 simpa using this
theorem bel_dn {B:Nat} {a w:World} (h:Below B a w) (n:Nat):Below B a (w.drewN n):=by
 induction n with
 | zero=>exact h
 | succ n ih=>exact ⟨ih.os,ih.tape,ih.output,ih.size,ih.block⟩
theorem rest_any {T:List UInt8} {rb:Nat} {u w0:World} {s:St} {w:World} (h:Rd T rb u w0 s w) (ho:Ok T s) :
  Calls Tryz.prog 58 #[.pointer (some ⟨rb,0,none⟩)] w fun e w'=>e=.returned (.string ⟨(rst T s).toArray⟩)∧∃ n,w'=w.drewN n:=by
 obtain ⟨⟨c0,c1,c2,c3⟩,-⟩:=four_cells h.at_
 have hdr:=La.drop_bytes T s.a
 have hp':(s.a:Int)≤(T.length:Int):=by have:=ho.a;omega
 have hT:=ho.t
 unfold rst
 clear h ho
 obtain ⟨a,e,n⟩:=s
 dsimp only at *
 by_cases k:e=0
 ·subst k
  rw [if_pos rfl]
  go_enter Tryz.func58,Tryz.ntmps58
  go_wp2_with fail
  go_quiet (fail)
  go_wp2_with fail
  go_ret
  exact ⟨rfl,_,rfl⟩
 ·rw [if_neg k]
  have hk:((e:Int) == 0)=false:=by rw [beq_eq_false_iff_ne];omega
  clear hdr hp' k
  go_enter Tryz.func58,Tryz.ntmps58
  go_wp2_with fail
  go_ret
  exact ⟨rfl,0,rfl⟩
theorem fail_any {T:List UInt8} {rb:Nat} {u w0:World} {s:St} {w:World} (h:Rd T rb u w0 s w) (e a:Nat) :
  Calls Tryz.prog 59 #[.pointer (some ⟨rb,0,none⟩),.int .i64 (e:Int),.int .i64 (a:Int)] w fun r w'=>r=.returned (.tuple #[])∧Rd T rb u w0 (fl s e a) w':=by
 obtain ⟨⟨c0,c1,c2,c3⟩,f1,f2,f3⟩:=four_cells h.at_
 have HF:Hid (Rd T rb u w0 ⟨a,e,s.n⟩ ((w.setCell ⟨rb,2,none⟩ (.int .i64 (e:Int))).setCell ⟨rb,1,none⟩ (.int .i64 (a:Int)))):=(h.set2 e).set1 a
 have HN:=hid_of h
 unfold fl
 clear h
 obtain ⟨a0,e0,n⟩:=s
 dsimp only at *
 by_cases k:e0=0
 ·subst k
  rw [if_pos rfl]
  clear HN
  go_enter Tryz.func59,Tryz.ntmps59
  go_wp2_with fail
  go_end0
  exact ⟨rfl,HF.out⟩
 ·rw [if_neg k]
  have hk:((e0:Int) == 0)=false:=by rw [beq_eq_false_iff_ne];omega
  clear HF k
  go_enter Tryz.func59,Tryz.ntmps59
  go_wp2_with fail
  go_end0
  exact ⟨rfl,HN.out⟩
theorem pass_any {T:List UInt8} {rb:Nat} {u w0:World} {s:St} {w:World} (h:Rd T rb u w0 s w) (ho:Ok T s) (m:Nat) (hm:m≤65536) :
  Calls Tryz.prog 101 #[.pointer (some ⟨rb,0,none⟩),.int .i64 (m:Int)] w fun r w'=>r=.returned (.tuple #[])∧Rd T rb u w0 (ps s m) w':=by
 obtain ⟨⟨c0,c1,c2,c3⟩,f1,f2,f3⟩:=four_cells h.at_
 have HF:Hid (Rd T rb u w0 ⟨s.a+m,s.e,s.n⟩ (w.setCell ⟨rb,1,none⟩ (.int .i64 ((s.a+m:Nat):Int)))):=h.set1 (s.a+m)
 have HN:=hid_of h
 have ha:=ho.a
 have ht:=ho.t
 unfold ps
 clear h ho
 obtain ⟨a0,e0,n⟩:=s
 dsimp only at *
 obtain ⟨q,hq⟩:∃ q,q=a0+m:=⟨_,rfl⟩
 rw [← hq] at HF
 have hw1:IntKind.i64.wrap ((a0:Int)+(m:Int))=(q:Int):=by rw [IntKind.wrap_i64];omega
 by_cases k:e0=0
 ·subst k
  rw [if_pos rfl,← hq]
  clear HN hq
  go_enter Tryz.func101,Tryz.ntmps101
  go_wp2_with fail
  go_end0
  exact ⟨rfl,HF.out⟩
 ·rw [if_neg k]
  have hk:((e0:Int) == 0)=false:=by rw [beq_eq_false_iff_ne];omega
  clear HF k hq
  go_enter Tryz.func101,Tryz.ntmps101
  go_wp2_with fail
  go_end0
  exact ⟨rfl,HN.out⟩
end Go.Proofs.YtlgkfeeclgcgbaaGreatDoor.Ru
/- RULES: THE READER: which bytes; row, must. Own work of the verifier. -/
set_option maxRecDepth 100000
set_option maxHeartbeats 2000000
namespace Go.Proofs.YtlgkfeeclgcgbaaGreatDoor.Ru
open Go.RowKit Me
theorem isdg_any (c:UInt8) (w:World) :
  Calls Tryz.prog 93 #[.int .u8 (c.toNat:Int)] w fun e w'=>e=.returned (.bool (isDg c))∧w'=w:=by
 unfold isDg
 generalize c.toNat=c
 by_cases a1:48≤c
 ·have i1:(48:Int)≤(c:Int):=by omega
  by_cases a2:c≤57
  ·have i2:(c:Int)≤57:=by omega
   rw [decide_eq_true a1,decide_eq_true a2]
   go_enter Tryz.func93,Tryz.ntmps93
   go_wp2_with fail
   go_ret
   exact ⟨rfl,rfl⟩
  ·have i2:¬ (c:Int)≤57:=by omega
   rw [decide_eq_true a1,decide_eq_false a2]
   go_enter Tryz.func93,Tryz.ntmps93
   go_wp2_with fail
   go_ret
   exact ⟨rfl,rfl⟩
 ·have i1:¬ (48:Int)≤(c:Int):=by omega
  rw [decide_eq_false a1]
  go_enter Tryz.func93,Tryz.ntmps93
  go_wp2_with fail
  go_ret
  exact ⟨rfl,rfl⟩
theorem islt_any (c:UInt8) (w:World) :
  Calls Tryz.prog 94 #[.int .u8 (c.toNat:Int)] w fun e w'=>e=.returned (.bool (isLt c))∧w'=w:=by
 unfold isLt
 generalize c.toNat=c
 by_cases a1:97≤c
 ·have i1:(97:Int)≤(c:Int):=by omega
  by_cases a2:c≤122
  ·have i2:(c:Int)≤122:=by omega
   rw [decide_eq_true a1,decide_eq_true a2]
   go_enter Tryz.func94,Tryz.ntmps94
   go_wp2_with fail
   go_ret
   exact ⟨rfl,rfl⟩
  ·have i2:¬ (c:Int)≤122:=by omega
   rw [decide_eq_true a1,decide_eq_false a2]
   go_enter Tryz.func94,Tryz.ntmps94
   go_wp2_with fail
   go_ret
   exact ⟨rfl,rfl⟩
 ·have i1:¬ (97:Int)≤(c:Int):=by omega
  rw [decide_eq_false a1]
  go_enter Tryz.func94,Tryz.ntmps94
  go_wp2_with fail
  go_ret
  exact ⟨rfl,rfl⟩
theorem index_any (l:List UInt8) (c:UInt8) (w:World) :
  Calls Tryz.prog 124 #[.string ⟨l.toArray⟩,.int .u8 (c.toNat:Int)] w fun e w'=>e=.returned (.int .i64 (Lib.indexByte l c))∧w'=w:=by
 have h:=Tryz.strings_IndexByte ⟨l.toArray⟩ (c.toNat:Int) w
 have hb:((c.toNat:Int).toNat).toUInt8=c:=by simp
 rw [hb] at h
 exact h
theorem isnm_any (c:UInt8) (w:World) :
  Calls Tryz.prog 99 #[.int .u8 (c.toNat:Int)] w fun e w'=>e=.returned (.bool (isNm c))∧w'=w:=by
 have HD:La.HidC _ _ _ _ _:=isdg_any c w
 have HI:La.HidC _ _ _ _ _:=index_any [46,101,45] c w
 unfold isNm
 generalize hi:Lib.indexByte [46,101,45] c=i at *
 cases hd:isDg c
 ·rw [hd] at HD
  clear hd hi
  go_enter Tryz.func99,Tryz.ntmps99
  go_wp2_with (first | (go_at_call 93;refine (HD.out).mono ?_;rintro e1 w1 ⟨rfl,rfl⟩) | (go_at_call 124;refine (HI.out).mono ?_;rintro e1 w1 ⟨rfl,rfl⟩))
  go_ret
  exact ⟨congrArg (fun b=>Ending.returned (Value.bool b)) (Bool.false_or _).symm,rfl⟩
 ·rw [hd] at HD
  clear hd hi HI
  go_enter Tryz.func99,Tryz.ntmps99
  go_wp2_with (first | (go_at_call 93;refine (HD.out).mono ?_;rintro e1 w1 ⟨rfl,rfl⟩))
  go_ret
  exact ⟨by simp,rfl⟩
theorem issg_any (c:UInt8) (w:World) :
  Calls Tryz.prog 97 #[.int .u8 (c.toNat:Int)] w fun e w'=>e=.returned (.bool (isSg c))∧w'=w:=by
 have HD:La.HidC _ _ _ _ _:=islt_any c w
 have HI:La.HidC _ _ _ _ _:=index_any [43,45,42,47,60,62,61,33] c w
 unfold isSg
 generalize hi:Lib.indexByte [43,45,42,47,60,62,61,33] c=i at *
 cases hd:isLt c
 ·rw [hd] at HD
  clear hd hi
  go_enter Tryz.func97,Tryz.ntmps97
  go_wp2_with (first | (go_at_call 94;refine (HD.out).mono ?_;rintro e1 w1 ⟨rfl,rfl⟩) | (go_at_call 124;refine (HI.out).mono ?_;rintro e1 w1 ⟨rfl,rfl⟩))
  go_ret
  exact ⟨congrArg (fun b=>Ending.returned (Value.bool b)) (Bool.false_or _).symm,rfl⟩
 ·rw [hd] at HD
  clear hd hi HI
  go_enter Tryz.func97,Tryz.ntmps97
  go_wp2_with (first | (go_at_call 94;refine (HD.out).mono ?_;rintro e1 w1 ⟨rfl,rfl⟩))
  go_ret
  exact ⟨by simp,rfl⟩
def Tells (k:FuncId) (p:UInt8→Bool):Prop:=(∀ args w,(callFunc k args).run Tryz.prog w=.ok (.enter k args) w)∧∀ (c:UInt8) (W:World),Calls Tryz.prog k #[.int .u8 (c.toNat:Int)] W fun e w'=>e=.returned (.bool (p c))∧w'=W
theorem tells_dg:Tells 93 isDg:=⟨enters_of Tryz.func93 (by kernel_rfl) rfl,isdg_any⟩
theorem tells_lt:Tells 94 isLt:=⟨enters_of Tryz.func94 (by kernel_rfl) rfl,islt_any⟩
theorem tells_nm:Tells 99 isNm:=⟨enters_of Tryz.func99 (by kernel_rfl) rfl,isnm_any⟩
theorem tells_sg:Tells 97 isSg:=⟨enters_of Tryz.func97 (by kernel_rfl) rfl,issg_any⟩
theorem take_while_at (p:UInt8→Bool) (R:List UInt8) (n:Nat) (h:n < R.length) (_q:(R.drop n).takeWhile p=(R.drop n).takeWhile p):(p R[n]=true→(R.drop n).takeWhile p=R[n]::(R.drop (n+1)).takeWhile p)∧(p R[n]=false→(R.drop n).takeWhile p=[]):=by
 rw [List.drop_eq_getElem_cons h]
 exact ⟨fun k=>by rw [List.takeWhile_cons,if_pos k],fun k=>by rw [List.takeWhile_cons,k];rfl⟩
theorem take_of_while (p:UInt8→Bool) (R:List UInt8):R.take (R.takeWhile p).length=R.takeWhile p:=by
 induction R with
 | nil=>rfl
 | cons c R ih =>
  rw [List.takeWhile_cons]
  split
  ·rw [List.length_cons,List.take_succ_cons,ih]
  ·rfl
theorem row_any {T:List UInt8} {rb:Nat} {u w0:World} {s:St} {w:World} (h:Rd T rb u w0 s w) (ho:Ok T s) (k:FuncId) (p:UInt8→Bool) (hp:Tells k p) :
  Calls Tryz.prog 98 #[.pointer (some ⟨rb,0,none⟩),.func (.func k) #[] #[]] w fun e w'=>e=.returned (.string ⟨(rowF p T s).toArray⟩)∧∃ n,w'=w.drewN n:=by
 obtain ⟨hen,hp⟩:=hp
 have HR:La.HidC _ _ _ _ _:=rest_any h ho
 have hl:=rst_le T s
 have hT:=ho.t
 unfold rowF
 generalize rst T s=R at *
 have HL:Hid (∀ (c:UInt8) (W:World),Calls Tryz.prog k #[.int .u8 (c.toNat:Int)] W fun e w'=>e=.returned (.bool (p c))∧w'=W):=hp
 obtain ⟨N,hN⟩:∃ N,N=(R.takeWhile p).length:=⟨_,rfl⟩
 have HN0:Hid (N=0+((R.drop 0).takeWhile p).length):=by show N=_;rw [hN,List.drop_zero,Nat.zero_add]
 have HT:Hid (R.take N=R.takeWhile p):=by show R.take N=_;rw [hN];exact take_of_while p R
 have hl':(R.length:Int)≤65536:=by omega
 clear h ho hN hp hl hT
 go_enter Tryz.func98,Tryz.ntmps98
 go_wp2_with fail
 refine (HR.out).mono ?_
 rintro e w1 ⟨rfl,m,rfl⟩
 go_wp2_with fail
 go_loopw [6] (fun a W=>∃ n:Nat,n≤R.length∧a=.int .i64 (n:Int)∧Hid (N=n+((R.drop n).takeWhile p).length)∧W=w.drewN m) (fun a _=>R.length - (intOf a).toNat)
 case atStart=>exact ⟨0,by omega,rfl,HN0,rfl⟩
 case round =>
  obtain ⟨n,hn,rfl,HK,hw⟩:=hrel
  subst wr
  clear HN0 HR
  have hS:=HK.out
  clear HK
  have htk:=La.take_bytes R n
  by_cases hlt:n < R.length
  ·have hlt':(n:Int) < (R.length:Int):=by omega
   have hB:n < (ByteArray.mk R.toArray).size:=by show n < R.toArray.size;simpa using hlt
   have hbe:(ByteArray.mk R.toArray)[n]'hB=R[n]:=rfl
   obtain ⟨q1,q2⟩:=take_while_at p R n hlt rfl
   have HL1:Hid _:=HL.out ((ByteArray.mk R.toArray)[n]'hB)
   rw [hbe] at HL1
   by_cases g1:p R[n]=true
   ·rw [g1] at HL1
    rw [q1 g1,List.length_cons] at hS
    have HR':Hid (N=n+1+((R.drop (n+1)).takeWhile p).length):=by show N=_;rw [hS];omega
    clear hS g1 HL htk q1 q2 HT
    as_aux_lemma =>
     go_wp2_with fail
     refine (HL1.out _).mono ?_
     rintro e w1 ⟨rfl,rfl⟩
     go_wp2_with fail
     exact ⟨⟨n+1,by omega,by go_num,HR',trivial⟩,by simp [intOf];omega⟩
   ·have g1':p R[n]=false:=by simpa using g1
    rw [g1'] at HL1
    rw [q2 g1'] at hS
    have HF:Hid (R.take n=R.takeWhile p):=by show R.take n=_;rw [← HT.out,hS];rfl
    clear hS g1 g1' HL HT q1 q2
    as_aux_lemma =>
     go_wp2_with fail
     refine (HL1.out _).mono ?_
     rintro e w1 ⟨rfl,rfl⟩
     go_wp2_with fail
     go_ret
     exact ⟨congrArg (fun z:List UInt8=>Ending.returned (Value.string ⟨z.toArray⟩)) HF.out,_,rfl⟩
  ·have hlt':¬ (n:Int) < (R.length:Int):=by omega
   rw [List.drop_eq_nil_of_le (by omega)] at hS
   have HF:Hid (R.take n=R.takeWhile p):=by show R.take n=_;rw [← HT.out,hS];rfl
   clear hS HL HT
   as_aux_lemma =>
    go_wp2_with fail
    go_ret
    exact ⟨congrArg (fun z:List UInt8=>Ending.returned (Value.string ⟨z.toArray⟩)) HF.out,_,rfl⟩
theorem one_byte (l:List UInt8) (i:Nat) (h:i < l.length):(ByteArray.mk l.toArray).extract i (i+1)=⟨#[l[i]]⟩:=by
 have:((l.drop i).take 1)=[l[i]]:=by rw [List.drop_eq_getElem_cons h];rfl
 apply ByteArray.ext
 rw [ByteArray.data_extract]
 apply Array.ext'
 rw [Array.toList_extract]
 simpa [List.extract] using this
theorem must_any {T:List UInt8} {rb:Nat} {u w0:World} {s:St} {w:World} (h:Rd T rb u w0 s w) (ho:Ok T s) (l:List UInt8) (hl:l.length≤100) :
  Calls Tryz.prog 95 #[.pointer (some ⟨rb,0,none⟩),.string ⟨l.toArray⟩] w fun e w'=>e=.returned (.tuple #[])∧Rd T rb u w0 (mst T l s) w':=by
 have HRs:Hid (∀ s W,Rd T rb u w0 s W→Ok T s→Calls Tryz.prog 58 #[.pointer (some ⟨rb,0,none⟩)] W fun e w'=>e=.returned (.string ⟨(rst T s).toArray⟩)∧∃ n,w'=W.drewN n):=fun s W h ho=>rest_any h ho
 have HF:Hid (∀ s W a,Rd T rb u w0 s W→Calls Tryz.prog 59 #[.pointer (some ⟨rb,0,none⟩),.int .i64 5,.int .i64 (a:Nat)] W fun r w'=>r=.returned (.tuple #[])∧Rd T rb u w0 (fl s 5 a) w'):=fun s W a h=>fail_any h 5 a
 have HP:Hid (∀ s W,Rd T rb u w0 s W→Ok T s→Calls Tryz.prog 101 #[.pointer (some ⟨rb,0,none⟩),.int .i64 1] W fun r w'=>r=.returned (.tuple #[])∧Rd T rb u w0 (ps s 1) w'):=fun s W h ho=>pass_any h ho 1 (by omega)
 have HK0:Hid (Rd T rb u w0 s w∧Ok T s∧mst T l s=mst T (l.drop 0) s):=⟨h,ho,by rw [List.drop_zero]⟩
 obtain ⟨Z,hZ⟩:∃ Z,Z=mst T l s:=⟨_,rfl⟩
 rw [← hZ] at HK0 ⊢
 have hl':(l.length:Int)≤100:=by omega
 clear h ho hZ
 go_enter Tryz.func95,Tryz.ntmps95
 go_wp2_with fail
 go_loopw [7] (fun a W=>∃ (i:Nat) (s:St),i≤l.length∧a=.int .i64 (i:Int)∧Hid (Rd T rb u w0 s W∧Ok T s∧Z=mst T (l.drop i) s)) (fun a _=>l.length - (intOf a).toNat)
 case atStart=>exact ⟨0,s,by omega,rfl,HK0⟩
 case round =>
  clear HK0
  obtain ⟨i,s,hi,rfl,HK⟩:=hrel
  by_cases hlt:i < l.length
  ·have hlt':(i:Int) < (l.length:Int):=by omega
   have hob:=one_byte l i hlt
   obtain ⟨hr,ho,hz⟩:=HK.out
   rw [List.drop_eq_getElem_cons hlt] at hz
   have hz':Z=mst T (l.drop (i+1)) (mst1 T s l[i]):=hz
   have hok:=ho.mst1 l[i]
   have D1:Hid (∀ n,Calls Tryz.prog 58 #[.pointer (some ⟨rb,0,none⟩)] (wr.drewN n) fun e w'=>e=.returned (.string ⟨(rst T s).toArray⟩)∧∃ m,w'=(wr.drewN n).drewN m):=fun n=>HRs.out s (wr.drewN n) (hr.below (bel_dn (Below.refl _ _) n)) ho
   have HPre:Hid (∀ W,Calls Tryz.prog 110 #[.string ⟨(rst T s).toArray⟩,.string ⟨#[l[i]]⟩] W fun r w'=>r=.returned (.bool (La.preB (rst T s) [l[i]]))∧w'=W):=fun W=>La.pre_any (rst T s) [l[i]] W
   have HRn:Hid (∀ n,Rd T rb u w0 s (wr.drewN n)):=fun n=>hr.below (bel_dn (Below.refl _ _) n)
   have HOk:=hid_of ho
   have HZ:=hid_of hz'
   have HOk':=hid_of hok
   have HM:Hid (mst1 T s l[i]=ps (if La.preB (rst T s) [l[i]] then s else fl s 5 s.a) 1):=rfl
   have HE:Hid (Ok T (fl s 5 s.a)):=ho.fl (fun _=>ho.a)
   have hFa:∀ n,(wr.drewN n).cell? ⟨rb,1,none⟩=some (.int .i64 (s.a:Int)):=fun n=>(four_cells (HRn.out n).at_).1.2.1
   have hw1:IntKind.i64.wrap ((i:Int)+1)=((i+1:Nat):Int):=by rw [IntKind.wrap_i64];omega
   clear hz hz' hok HK hr HRs ho
   generalize l[i]=c at *
   generalize rst T s=R at *
   cases hq:La.preB R [c]
   ·rw [hq] at HPre HM
    have HM':Hid (mst1 T s c=ps (fl s 5 s.a) 1):=HM.out
    clear hq HM HOk
    go_wp2_with fail
    go_quiet ((first | (go_at_call 58;exact Calls.quiet_of (D1.out _)) | (go_at_call 110;exact Calls.quiet_of_same (HPre.out _))))
    have hF2:=hFa nq
    have HR2:=hid_of (HRn.out nq)
    clear hFa D1 HPre
    go_wp2_with fail
    refine Calls.mono (HF.out s _ s.a HR2.out) ?_
    rintro e w2 ⟨rfl,hr2⟩
    have HR3:=hid_of hr2
    clear hF2 HR2 hr2
    go_wp2_with fail
    refine Calls.mono (HP.out _ w2 HR3.out HE.out) ?_
    rintro e w3 ⟨rfl,hr3⟩
    have HR4:Hid (Rd T rb u w0 (mst1 T s c) w3):=by show Rd _ _ _ _ _ _;rw [HM'.out];exact hr3
    clear hr3
    go_wp2_with fail
    exact ⟨⟨i+1,mst1 T s c,by omega,by go_num,HR4.out,HOk'.out,HZ.out⟩,by simp [intOf];omega⟩
   ·rw [hq] at HPre HM
    have HM':Hid (mst1 T s c=ps s 1):=HM.out
    clear hq HM HF
    go_wp2_with fail
    go_quiet ((first | (go_at_call 58;exact Calls.quiet_of (D1.out _)) | (go_at_call 110;exact Calls.quiet_of_same (HPre.out _))))
    have HR2:=hid_of (HRn.out nq)
    clear hFa D1 HPre
    go_wp2_with fail
    refine Calls.mono (HP.out _ _ HR2.out HOk.out) ?_
    rintro e w3 ⟨rfl,hr3⟩
    have HR4:Hid (Rd T rb u w0 (mst1 T s c) w3):=by show Rd _ _ _ _ _ _;rw [HM'.out];exact hr3
    clear hr3
    go_wp2_with fail
    exact ⟨⟨i+1,mst1 T s c,by omega,by go_num,HR4.out,HOk'.out,HZ.out⟩,by simp [intOf];omega⟩
  ·have hlt':¬ (i:Int) < (l.length:Int):=by omega
   obtain ⟨hr,ho,hz⟩:=HK.out
   rw [List.drop_eq_nil_of_le (by omega)] at hz
   have HE:Hid (Rd T rb u w0 Z wr):=by show Rd _ _ _ _ _ _;rw [hz];exact hr
   clear HK hr ho hz HRs HF HP
   go_wp2_with fail
   go_end0
   exact ⟨rfl,HE.out⟩
end Go.Proofs.YtlgkfeeclgcgbaaGreatDoor.Ru
/- RULES: THE TABLE OF KINDS; kindOf. Own work of the verifier. -/
set_option maxHeartbeats 2000000
namespace Go.Proofs.YtlgkfeeclgcgbaaGreatDoor.Ru
open Go.RowKit Me
def kdA:Array Value:=(kwT.flatMap fun k=>[Value.int .i64 (k.1:Int),Value.string ⟨k.2.toArray⟩]).toArray
def Kd (W:World):Prop:=∃ t fr,W.heap[0]? =some (.cells kdA t fr)
theorem Kd.lt {W:World} (h:Kd W):0 < W.heap.size:=by
 obtain ⟨t,fr,h⟩:=h
 exact (Array.getElem?_eq_some_iff.1 h).1
theorem Kd.below {W W1:World} (h:Kd W) (hb:Below W.heap.size W W1):Kd W1:=by
 obtain ⟨t,fr,h1⟩:=h
 exact ⟨t,fr,(hb.block _ (Kd.lt ⟨t,fr,h1⟩)).trans h1⟩
theorem kdA_at (i:Nat) (h:i < 22):kdA[2*i]? =some (.int .i64 ((kwA i).1:Int))∧kdA[2*i+1]? =some (.string ⟨(kwA i).2.toArray⟩):=by
 rcases i with _ | _ | _ | _ | _ | _ | _ | _ | _ | _ | _ | _ | _ | _ | _ | _ | _ | _ | _ | _ | _ | _ | i
 all_goals first | omega | exact ⟨rfl,rfl⟩
theorem Kd.cells {W:World} (h:Kd W) (i:Nat) (hi:i < 22):W.cell? ⟨0,2*i,none⟩=some (.int .i64 ((kwA i).1:Int))∧W.cell? ⟨0,2*i+1,none⟩=some (.string ⟨(kwA i).2.toArray⟩):=by
 obtain ⟨t,fr,h1⟩:=h
 obtain ⟨a,b⟩:=kdA_at i hi
 constructor
 ·simp only [World.cell?,h1];exact a
 ·simp only [World.cell?,h1];exact b
theorem sizeK (W:World):(sizeOf 163).run Tryz.prog W=.ok 2 W:=by simp [sizeOf];rfl
theorem index_kind (i:Nat) (z:Int) (hz:z=(i:Int)) (hi:i < 22) (W:World) :
  (Instr.indexAt 196 (.pointer (some ⟨0,0,none⟩)) (.int .i64 z)).run Tryz.prog W=.ok (.pointer (some ⟨0,2*i,none⟩)) W:=by
 subst hz
 have hl:Tryz.prog.arrayLen 196=22:=by kernel_rfl
 have he:Tryz.prog.elem 196=163:=by kernel_rfl
 rw [run_indexAt_array W 196 ⟨0,0,none⟩ .i64 (i:Int) (by rw [hl,he];exact Tryz.underlying196),hl,if_pos (by omega),he,sizeK]
 simp [Addr.add,Result.andThen,Nat.mul_comm]
 exact fun h=>h.symm
abbrev rx (k:Int) (x:Nat) (nm:List UInt8) (lv:Value) (w n d:Int) (av:Value):Value:=.agg #[.int .i64 k,.float .f64 x,.string ⟨nm.toArray⟩,lv,.int .i64 w,.int .i64 n,.int .i64 d,av]
abbrev rc (k:Int) (x:Nat) (nm:List UInt8) (lv:Value) (w n d:Int) (av:Value):Array Value:=#[.int .i64 k,.float .f64 x,.string ⟨nm.toArray⟩,lv,.int .i64 w,.int .i64 n,.int .i64 d,av]
abbrev kx (q:Nat × List UInt8):Value:=.agg #[.int .i64 (q.1:Int),.string ⟨q.2.toArray⟩]
theorem fldK (a:Int) (b:ByteArray) (W:World):(Instr.field 163 (.agg #[.int .i64 a,.string b]) 0).run Tryz.prog W=.ok (.int .i64 a) W:=by kernel_rfl
def IsSl (v:Value):Prop:=∃ a n c,v=.slice a n c
theorem kind_any (k:Int) (x:Nat) (nm:List UInt8) (lv:Value) (wi n d:Int) (av:Value) (hl:IsSl lv) (ha:IsSl av) (w:World) (h:Kd w) :
  Calls Tryz.prog 78 #[rx k x nm lv wi n d av] w fun e w'=>e=.returned (kx (kwI k))∧Below w.heap.size w w':=by
 obtain ⟨la,ln,lc,rfl⟩:=hl
 obtain ⟨aa,an,ac,rfl⟩:=ha
 by_cases h0:k < 0
 ·have hK:kwI k=(0,[]):=by unfold kwI;rw [if_neg (by omega)]
  rw [hK]
  clear h
  go_enter Tryz.func78,Tryz.ntmps78
  go_wp2
  refine bodyPost_ret (results_cell_row (P:=Tryz.prog) rfl _ _ (w.heap.size+1) 163 _ (0,0) _ rfl (heap_alloc2_new w _ _) Tryz.underlying163 rfl (by kernel_rfl)) rfl ?_
  exact ⟨rfl,La.bel2 w _ _⟩
 ·by_cases h1:22≤k
  ·have hK:kwI k=(0,[]):=by unfold kwI;rw [if_neg (by omega)]
   rw [hK]
   clear h
   go_enter Tryz.func78,Tryz.ntmps78
   go_wp2
   refine bodyPost_ret (results_cell_row (P:=Tryz.prog) rfl _ _ (w.heap.size+1) 163 _ (0,0) _ rfl (heap_alloc2_new w _ _) Tryz.underlying163 rfl (by kernel_rfl)) rfl ?_
   exact ⟨rfl,La.bel2 w _ _⟩
  ·have hz:=Int.eq_ofNat_of_zero_le (a:=k) (by omega)
   obtain ⟨i,rfl⟩:=hz
   have hi:i < 22:=by omega
   have hK:kwI (i:Int)=kwA i:=by unfold kwI;rw [if_pos (by omega)];rfl
   rw [hK]
   obtain ⟨c0,c1⟩:=h.cells i hi
   have hg:=h.lt
   have hix:=index_kind i (i:Int) rfl hi
   generalize kwA i=q at *
   obtain ⟨q1,q2⟩:=q
   dsimp only at *
   clear h hK
   go_enter Tryz.func78,Tryz.ntmps78
   go_wp2
   refine bodyPost_ret (results_cell_row (P:=Tryz.prog) rfl _ _ (w.heap.size+1) 163 _ (0,0) _ rfl (heap_alloc2_new w _ _) Tryz.underlying163 rfl (by kernel_rfl)) rfl ?_
   exact ⟨rfl,La.bel2 w _ _⟩
end Go.Proofs.YtlgkfeeclgcgbaaGreatDoor.Ru
