/- MEMORY. Own work of the verifier. -/
import Derived.Test.YtfkbjdgbpenflaaGreatDoorRows
import Derived.WalkKit
import Derived.WalkSpells
import Derived.RowKit3
import Derived.Below
import Derived.Outline
import Derived.Deep.QuietTactic
import Derived.Deep.Draws
import Derived.BigQuiet
import Derived.Laws.Bits64
import Derived.Laws.BitsAllLaws
import Derived.Laws.ShiftsVarLaws
import Derived.Deep.RegionHeld3
import Derived.Deep.DeepCutAuto
import Derived.Laws.OwnMore
import Derived.OwnWalk
import Derived.Test.YtfkbjdgbpenflaaGreatDoorWAJ
import Derived.Test.YtfkbjdgbpenflaaGreatDoorWAF
import Derived.Test.YtfkbjdgbpenflaaGreatDoorWAB
import Derived.Test.YtfkbjdgbpenflaaGreatDoorWAM
import Derived.Test.YtfkbjdgbpenflaaGreatDoorWAD
import Derived.Test.YtfkbjdgbpenflaaGreatDoorWAL
set_option maxRecDepth 100000
set_option maxHeartbeats 2000000
namespace Go.Proofs.YtfkbjdgbpenflaaGreatDoor.Me
open Go.RowKit
theorem bel1 (w:World) (o1:Obj):Below w.heap.size w (w.alloc o1):=(Below.refl _ _).alloc (Nat.le_refl _) _
theorem bt {w W W1:World} (h:Below w.heap.size w W) (k:Below W.heap.size W W1):Below w.heap.size w W1:=h.trans (k.mono h.size)
theorem new_1 (w:World) (o:Obj):(w.alloc o).heap[w.heap.size]? =some o:=by
 show (w.heap.push _)[w.heap.size]? =_
 simp
theorem hid_of {p:Prop} (h:p):Hid p:=h
theorem retB {A B:Bool} (h:A=B):Ending.returned (Value.bool A)=.returned (.bool B):=by rw [h]
theorem heap_other (w:World) (a:Addr) (k:Nat) (u:Value) (h:k≠a.block):(w.setCell a u).heap[k]? =w.heap[k]?:=Below.heap_setCell _ _ _ _ h
theorem bel_drewB {B:Nat} {a w:World} (h:Below B a w):Below B a w.drew:=⟨h.os,h.tape,h.output,h.size,h.block⟩
theorem own_apart {W:World} {B B':Nat} {e e':TypeId} {s s':Nat} {v v':Value} {n n':Nat} {xs xs':List Value} (h:W.ownsRow B e s v n xs) (h':W.ownsRow B' e' s' v' n' xs') (hne:e≠e'):v.ownBlock=none∨v.ownBlock≠v'.ownBlock:=by
 rcases h.2 with ⟨k,_⟩ | ⟨g1,c1,cur,k,_,hg,_⟩
 ·left;rw [k];rfl
 right
 rcases h'.2 with ⟨k',_⟩ | ⟨g2,c2,cur',k',_,hg',_⟩
 ·rw [k,k'];simp [Value.ownBlock]
 ·rw [k,k']
  intro e1
  simp only [Value.ownBlock,Option.some.injEq] at e1
  subst e1
  rw [hg] at hg'
  cases hg'
  exact hne rfl
theorem grown_bel {a b:World} {row:Option Nat} (h:Below a.heap.size a b):a.grownBy b row:=⟨h.os,h.tape,h.output,h.size,fun k hk _=>h.block k hk⟩
theorem own_atG {W:World} {B:Nat} {e:TypeId} {s n:Nat} {v:Value} {xs:List Value} (h:W.ownsRow B e s v n xs):v.ownBlock=none∨∃ g,v.ownBlock=some g∧B≤g∧g < W.heap.size:=by
 rcases h.2 with ⟨q,_⟩ | ⟨g,cap,cur,q,hB,hg,_⟩
 ·left;rw [q];rfl
 ·right;exact ⟨g,by rw [q];rfl,hB,(Array.getElem?_eq_some_iff.1 hg).1⟩
theorem own_belG {W W':World} {B:Nat} {e:TypeId} {s n:Nat} {v:Value} {xs:List Value} (h:W.ownsRow B e s v n xs) (hb:Below W.heap.size W W'):W'.ownsRow B e s v n xs:=World.ownsRow.kept (row:=none) h (grown_bel hb) (by cases e:v.ownBlock <;> simp)
theorem own_leG {W:World} {B B':Nat} {e:TypeId} {s n:Nat} {v:Value} {xs:List Value} (h:W.ownsRow B e s v n xs) (hb:B'≤B):W.ownsRow B' e s v n xs:=by
 refine ⟨h.1,?_⟩
 rcases h.2 with k | ⟨g,cap,cur,hv,hB,hrest⟩
 ·exact Or.inl k
 ·exact Or.inr ⟨g,cap,cur,hv,by omega,hrest⟩
theorem own_notype {W:World} {B p:Nat} {e t:TypeId} {s n:Nat} {v:Value} {xs:List Value} {cs:Array Value} {z:Nat × Nat} (h:W.ownsRow B e s v n xs) (hp:W.heap[p]? =some (.cells cs t z)) (hne:e≠t):v.ownBlock≠some p:=by
 rcases h.2 with ⟨k,_⟩ | ⟨g1,c1,cur,k,_,hg,_⟩
 ·rw [k];simp [Value.ownBlock]
 ·rw [k]
  intro e1
  simp only [Value.ownBlock,Option.some.injEq] at e1
  subst e1
  rw [hg] at hp
  cases hp
  exact hne rfl
structure Chg (S:Nat→Prop) (W W':World):Prop where
 os:W'.os=W.os
 tape:W'.tape=W.tape
 output:W'.output=W.output
 size:W.heap.size≤W'.heap.size
 block:∀ k,k < W.heap.size→¬ S k→W'.heap[k]? =W.heap[k]?
theorem Chg.refl (S:Nat→Prop) (W:World):Chg S W W:=⟨rfl,rfl,rfl,Nat.le_refl _,fun _ _ _=>rfl⟩
theorem Chg.trans {S S':Nat→Prop} {a b c:World} (h:Chg S a b) (k:Chg S' b c) (hs:∀ x,S' x→S x∨a.heap.size≤x):Chg S a c :=
 ⟨k.os.trans h.os,k.tape.trans h.tape,k.output.trans h.output,Nat.le_trans h.size k.size,fun j hj hn=>(k.block j (Nat.lt_of_lt_of_le hj h.size) (fun q=>by rcases hs j q with r | r;exact hn r;omega)).trans (h.block j hj hn)⟩
theorem Chg.of_grown {S:Nat→Prop} {a b:World} {row:Option Nat} (h:a.grownBy b row) (hs:∀ x,row=some x→S x):Chg S a b :=
 ⟨h.os,h.tape,h.output,h.size,fun k hk hn=>h.block k hk (fun e=>hn (hs k e.symm))⟩
theorem Chg.of_below {S:Nat→Prop} {a b:World} (h:Below a.heap.size a b):Chg S a b:=⟨h.os,h.tape,h.output,h.size,fun k hk _=>h.block k hk⟩
theorem Chg.row {S:Nat→Prop} {W W':World} {B:Nat} {e:TypeId} {s n:Nat} {v:Value} {xs:List Value} (k:Chg S W W') (h:W.ownsRow B e s v n xs) (hS:∀ x,v.ownBlock=some x→¬ S x):W'.ownsRow B e s v n xs:=by
 refine ⟨h.1,?_⟩
 rcases h.2 with hn | ⟨g,cap,cur,rfl,hb,hgg,rest⟩
 ·exact .inl hn
 ·exact .inr ⟨g,cap,cur,rfl,hb,(k.block g (Array.getElem?_eq_some_iff.1 hgg).1 (hS g rfl)).trans hgg,rest⟩
theorem Chg.at_ {S:Nat→Prop} {W W':World} {p:Nat} {o:Obj} (k:Chg S W W') (h:W.heap[p]? =some o) (hS:¬ S p):W'.heap[p]? =some o:=(k.block p (Array.getElem?_eq_some_iff.1 h).1 hS).trans h
theorem Chg.below {S:Nat→Prop} {B:Nat} {a b:World} (k:Chg S a b) (hB:B≤a.heap.size) (hS:∀ x,S x→B≤x):Below B a b:=⟨k.os,k.tape,k.output,k.size,fun j hj=>k.block j (by omega) (fun q=>by have:=hS j q;omega)⟩
end Go.Proofs.YtfkbjdgbpenflaaGreatDoor.Me
namespace Go.Proofs.YtfkbjdgbpenflaaGreatDoor
open Go.RowKit Me
structure Vl where
 d:La.Ds
 t:Int
 cs:List Cn
 n:Nat
 sum:Nat
 mn:Nat
 mx:Nat
abbrev vx (x:Vl) (lv cv:Value):Value:=.agg #[.int .i64 x.d.kind,.string ⟨x.d.name.toArray⟩,.string ⟨x.d.help.toArray⟩,lv,.int .i64 (hiOf x.t),.int .u64 (loOf x.t),cv,.int .u64 (x.n:Int),.float .f64 x.sum,.float .f64 x.mn,.float .f64 x.mx]
abbrev vc (x:Vl) (lv cv:Value):Array Value:=#[.int .i64 x.d.kind,.string ⟨x.d.name.toArray⟩,.string ⟨x.d.help.toArray⟩,lv,.int .i64 (hiOf x.t),.int .u64 (loOf x.t),cv,.int .u64 (x.n:Int),.float .f64 x.sum,.float .f64 x.mn,.float .f64 x.mx]
structure VW (x:Vl):Prop where
 t:InR x.t
 cs:Wc x.cs
 cl:x.cs.length≤8796093022208
 n:x.n < 18446744073709551616
 sum:x.sum < 18446744073709551616
 mn:x.mn < 18446744073709551616
 mx:x.mx < 18446744073709551616
 d:La.DsS x.d
def SLb (W:World) (v:Value) (L:List La.Lb):Prop:=(v=.slice none 0 0∧L=[])∨(∃ b o cap,v=.slice (some ⟨b,o,none⟩) L.length cap∧L.length≤cap∧cap≤9223372036854775807∧La.RowL W b o L)∨∃ a cap,v=.slice (some a) L.length cap∧cap≤9223372036854775807∧L=[]
theorem SLb.below {W W1:World} {v:Value} {L:List La.Lb} (h:SLb W v L) (hb:Below W.heap.size W W1):SLb W1 v L:=by
 rcases h with h | ⟨b,o,cap,h1,h2,h3,hr⟩ | h
 ·exact Or.inl h
 ·exact Or.inr (Or.inl ⟨b,o,cap,h1,h2,h3,hr.below hb⟩)
 ·exact Or.inr (Or.inr h)
theorem SLb.form {W:World} {v:Value} {L:List La.Lb} (h:SLb W v L):∃ ao cap,v=.slice ao L.length cap:=by
 rcases h with ⟨rfl,rfl⟩ | ⟨b,o,cap,rfl,_⟩ | ⟨a,cap,rfl,_⟩
 ·exact ⟨_,_,rfl⟩
 ·exact ⟨_,_,rfl⟩
 ·exact ⟨_,_,rfl⟩
theorem SN.form {W:World} {v:Value} {L:List Cn} (h:SN W v L):∃ ao cap,v=.slice ao L.length cap:=by
 rcases h with ⟨rfl,rfl⟩ | ⟨a,cap,rfl,_⟩
 ·exact ⟨_,_,rfl⟩
 ·exact ⟨_,_,rfl⟩
theorem SLb.dsc {W:World} {v:Value} {d:La.Ds} (h:SLb W v d.labels):La.DsC W d (.agg #[.int .i64 d.kind,.string ⟨d.name.toArray⟩,.string ⟨d.help.toArray⟩,v]):=by
 rcases h with ⟨rfl,h2⟩ | ⟨b,o,cap,rfl,h2,h3,hr⟩ | ⟨a,cap,rfl,h3,h2⟩
 ·exact ⟨none,0,0,0,by rw [h2];rfl,fun k=>absurd h2 k,by rw [h2];exact Nat.le_refl _,by omega,by rw [h2];exact fun i hi=>by simp at hi⟩
 ·exact ⟨_,b,o,cap,rfl,fun _=>rfl,h2,h3,hr⟩
 ·exact ⟨_,0,0,cap,rfl,fun k=>absurd h2 k,by rw [h2];exact Nat.zero_le _,h3,by rw [h2];exact fun i hi=>by simp at hi⟩
def VAt (W:World) (x:Vl) (v:Value):Prop:=∃ lv cv,v=vx x lv cv∧SLb W lv x.d.labels∧SN W cv x.cs
theorem VAt.below {W W1:World} {x:Vl} {v:Value} (h:VAt W x v) (hb:Below W.heap.size W W1):VAt W1 x v:=by
 obtain ⟨lv,cv,e,h1,h2⟩:=h
 exact ⟨lv,cv,e,h1.below hb,h2.below hb⟩
structure C11 (W:World) (b o:Nat) (x:Vl) (lv cv:Value):Prop where
 c0:W.cell? ⟨b,o,none⟩=some (.int .i64 x.d.kind)
 c1:W.cell? ⟨b,o+1,none⟩=some (.string ⟨x.d.name.toArray⟩)
 c2:W.cell? ⟨b,o+2,none⟩=some (.string ⟨x.d.help.toArray⟩)
 c3:W.cell? ⟨b,o+3,none⟩=some lv
 c4:W.cell? ⟨b,o+4,none⟩=some (.int .i64 (hiOf x.t))
 c5:W.cell? ⟨b,o+5,none⟩=some (.int .u64 (loOf x.t))
 c6:W.cell? ⟨b,o+6,none⟩=some cv
 c7:W.cell? ⟨b,o+7,none⟩=some (.int .u64 (x.n:Int))
 c8:W.cell? ⟨b,o+8,none⟩=some (.float .f64 x.sum)
 c9:W.cell? ⟨b,o+9,none⟩=some (.float .f64 x.mn)
 c10:W.cell? ⟨b,o+10,none⟩=some (.float .f64 x.mx)
theorem cellB {W W':World} {a:Addr} {u:Value} (hb:Below W.heap.size W W') (h:W.cell? a=some u):W'.cell? a=some u:=(hb.cell (p:=a) (World.block_lt_of_cell? W a h)).trans h
theorem C11.below {W W1:World} {b o:Nat} {x:Vl} {lv cv:Value} (h:C11 W b o x lv cv) (hb:Below W.heap.size W W1):C11 W1 b o x lv cv :=
 ⟨cellB hb h.c0,cellB hb h.c1,cellB hb h.c2,cellB hb h.c3,cellB hb h.c4,cellB hb h.c5,cellB hb h.c6,cellB hb h.c7,cellB hb h.c8,cellB hb h.c9,cellB hb h.c10⟩
structure B11 (W:World) (b:Nat) (x:Vl) (lv cv:Value):Prop where
 c0:W.cell? ⟨b,0,none⟩=some (.int .i64 x.d.kind)
 c1:W.cell? ⟨b,1,none⟩=some (.string ⟨x.d.name.toArray⟩)
 c2:W.cell? ⟨b,2,none⟩=some (.string ⟨x.d.help.toArray⟩)
 c3:W.cell? ⟨b,3,none⟩=some lv
 c4:W.cell? ⟨b,4,none⟩=some (.int .i64 (hiOf x.t))
 c5:W.cell? ⟨b,5,none⟩=some (.int .u64 (loOf x.t))
 c6:W.cell? ⟨b,6,none⟩=some cv
 c7:W.cell? ⟨b,7,none⟩=some (.int .u64 (x.n:Int))
 c8:W.cell? ⟨b,8,none⟩=some (.float .f64 x.sum)
 c9:W.cell? ⟨b,9,none⟩=some (.float .f64 x.mn)
 c10:W.cell? ⟨b,10,none⟩=some (.float .f64 x.mx)
theorem B11.below {W W1:World} {b:Nat} {x:Vl} {lv cv:Value} (h:B11 W b x lv cv) (hb:Below W.heap.size W W1):B11 W1 b x lv cv :=
 ⟨cellB hb h.c0,cellB hb h.c1,cellB hb h.c2,cellB hb h.c3,cellB hb h.c4,cellB hb h.c5,cellB hb h.c6,cellB hb h.c7,cellB hb h.c8,cellB hb h.c9,cellB hb h.c10⟩
structure KV (w:World) (b:Nat) (x:Vl) (lv cv:Value) (W:World):Prop where
 box:B11 W b x lv cv
 l:SLb W lv x.d.labels
 c:SN W cv x.cs
 bl:Below w.heap.size w W
theorem KV.below {w W W1:World} {b:Nat} {x:Vl} {lv cv:Value} (h:KV w b x lv cv W) (hb:Below W.heap.size W W1):KV w b x lv cv W1:=⟨h.box.below hb,h.l.below hb,h.c.below hb,bt h.bl hb⟩
def RowV (W:World) (b o:Nat) (L:List Vl):Prop:=∀ i (h:i < L.length),∃ lv cv,C11 W b (o+i*11) L[i] lv cv∧SLb W lv L[i].d.labels∧SN W cv L[i].cs
theorem RowV.below {W W1:World} {b o:Nat} {L:List Vl} (h:RowV W b o L) (hb:Below W.heap.size W W1):RowV W1 b o L:=fun i hi=>by
 obtain ⟨lv,cv,h1,h2,h3⟩:=h i hi
 exact ⟨lv,cv,h1.below hb,h2.below hb,h3.below hb⟩
def SV (W:World) (v:Value) (L:List Vl):Prop:=(v=.slice none 0 0∧L=[])∨∃ b o cap,v=.slice (some ⟨b,o,none⟩) L.length cap∧L.length≤cap∧cap≤9223372036854775807∧RowV W b o L
theorem SV.below {W W1:World} {v:Value} {L:List Vl} (h:SV W v L) (hb:Below W.heap.size W W1):SV W1 v L:=by
 rcases h with h | ⟨b,o,cap,h1,h2,h3,hr⟩
 ·exact Or.inl h
 ·exact Or.inr ⟨b,o,cap,h1,h2,h3,hr.below hb⟩
theorem SV.open {W:World} {v:Value} {L:List Vl} (h:SV W v L):∃ ao b o cap,v=.slice ao L.length cap∧(L≠[]→ao=some ⟨b,o,none⟩)∧L.length≤cap∧cap≤9223372036854775807∧RowV W b o L:=by
 rcases h with ⟨rfl,rfl⟩ | ⟨b,o,cap,rfl,h2,h3,hr⟩
 ·exact ⟨none,0,0,0,rfl,fun k=>absurd rfl k,Nat.le_refl _,by omega,fun i hi=>by simp at hi⟩
 ·exact ⟨_,b,o,cap,rfl,fun _=>rfl,h2,h3,hr⟩
structure Sn where
 p:Int
 vs:List Vl
 r:Nat
def SnAt (W:World) (s:Sn) (v:Value):Prop:=∃ u,v=.agg #[.int .i64 s.p,u,.int .u64 (s.r:Int)]∧SV W u s.vs
theorem SnAt.below {W W1:World} {s:Sn} {v:Value} (h:SnAt W s v) (hb:Below W.heap.size W W1):SnAt W1 s v:=by
 obtain ⟨u,e,h1⟩:=h
 exact ⟨u,e,h1.below hb⟩
structure SnW (s:Sn):Prop where
 vs:∀ x ∈ s.vs,VW x
 r:s.r < 18446744073709551616
theorem newB11 (w:World) (x:Vl) (lv cv:Value) (t:TypeId):B11 (w.alloc (.cells (vc x lv cv) t)) w.heap.size x lv cv:=by
 constructor <;> simp [go_sem]
theorem KV.new {w:World} {x:Vl} {lv cv:Value} (hl:SLb w lv x.d.labels) (hc:SN w cv x.cs) (t:TypeId):KV w w.heap.size x lv cv (w.alloc (.cells (vc x lv cv) t)):=⟨newB11 w x lv cv t,hl.below (bel1 _ _),hc.below (bel1 _ _),bel1 _ _⟩
theorem KV.new2 {w:World} {x y:Vl} {lv cv lw cw:Value} (hl:SLb w lv x.d.labels) (hc:SN w cv x.cs) (hl':SLb w lw y.d.labels) (hc':SN w cw y.cs) (t:TypeId) :
  KV w w.heap.size x lv cv ((w.alloc (.cells (vc x lv cv) t)).alloc (.cells (vc y lw cw) t))∧KV w (w.heap.size+1) y lw cw ((w.alloc (.cells (vc x lv cv) t)).alloc (.cells (vc y lw cw) t)):=by
 have h1:=KV.new hl hc t
 refine ⟨h1.below (bel1 _ _),?_⟩
 have h2:=newB11 (w.alloc (.cells (vc x lv cv) t)) y lw cw t
 rw [show (w.alloc (.cells (vc x lv cv) t)).heap.size=w.heap.size+1 by simp] at h2
 exact ⟨h2,hl'.below (bel2 _ _ _),hc'.below (bel2 _ _ _),bel2 _ _ _⟩
theorem bel_drewNB {B:Nat} {a w:World} (h:Below B a w) (n:Nat):Below B a (w.drewN n):=by
 induction n with
 | zero=>exact h
 | succ n ih=>exact ⟨ih.os,ih.tape,ih.output,ih.size,ih.block⟩
abbrev sf (x y:Vl):Bool:=Re.sF x.sum y.sum && Re.sF x.mn y.mn && Re.sF x.mx y.mx
def fz (x:Vl):Bool:=decide (x.sum=0) && decide (x.mn=0) && decide (x.mx=0)
theorem sfl_any (s1 m1 x1 s2 m2 x2:Nat) (h1:s1 < 18446744073709551616) (h2:m1 < 18446744073709551616) (h3:x1 < 18446744073709551616) (h4:s2 < 18446744073709551616) (h5:m2 < 18446744073709551616) (h6:x2 < 18446744073709551616)
  (a0 a1 a2 a3 a4 a5 a6 a7 b0 b1 b2 b3 b4 b5 b6 b7:Value) (w:World) :
  Calls Tryz.prog 33 #[.agg #[a0,a1,a2,a3,a4,a5,a6,a7,.float .f64 s1,.float .f64 m1,.float .f64 x1],.agg #[b0,b1,b2,b3,b4,b5,b6,b7,.float .f64 s2,.float .f64 m2,.float .f64 x2]] w fun e w'=>e=.returned (.bool (Re.sF s1 s2 && Re.sF m1 m2 && Re.sF x1 x2))∧Below w.heap.size w w':=by
 have H1:Hid (∀ W,Calls Tryz.prog 61 #[.float .f64 s1,.float .f64 s2] W fun e w'=>e=.returned (.bool (Re.sF s1 s2))∧w'=W):=fun W=>Re.same_any s1 s2 h1 h4 W
 have H2:Hid (∀ W,Calls Tryz.prog 61 #[.float .f64 m1,.float .f64 m2] W fun e w'=>e=.returned (.bool (Re.sF m1 m2))∧w'=W):=fun W=>Re.same_any m1 m2 h2 h5 W
 have H3:Hid (∀ W,Calls Tryz.prog 61 #[.float .f64 x1,.float .f64 x2] W fun e w'=>e=.returned (.bool (Re.sF x1 x2))∧w'=W):=fun W=>Re.same_any x1 x2 h3 h6 W
 generalize Re.sF s1 s2=p at *
 generalize Re.sF m1 m2=q at *
 generalize Re.sF x1 x2=r at *
 clear h1 h2 h3 h4 h5 h6
 cases p <;> cases q <;> cases r
 all_goals as_aux_lemma =>
  go_enter Tryz.func33,Tryz.ntmps33
  go_wp2_with (go_at_call 61;(first | (with_reducible refine (H1.out _).mono ?_) | (with_reducible refine (H2.out _).mono ?_) | (with_reducible refine (H3.out _).mono ?_));rintro e w1 ⟨rfl,rfl⟩)
  go_ret
  exact ⟨rfl,bel2 w _ _⟩
theorem fz_sf (x:Vl) (h:VW x):(Re.sF x.sum 0 && Re.sF x.mn 0 && Re.sF x.mx 0)=fz x:=by
 unfold fz
 rw [Re.zero_rk _ h.sum,Re.zero_rk _ h.mn,Re.zero_rk _ h.mx]
theorem nofl_any (x:Vl) (lv cv:Value) (h:VW x) (w:World) :
  Calls Tryz.prog 41 #[vx x lv cv] w fun e w'=>e=.returned (.bool (fz x))∧Below w.heap.size w w':=by
 have H1:Hid (∀ a0 a1 a2 a3 a4 a5 a6 a7 b0 b1 b2 b3 b4 b5 b6 b7 W,Calls Tryz.prog 33 #[.agg #[a0,a1,a2,a3,a4,a5,a6,a7,.float .f64 x.sum,.float .f64 x.mn,.float .f64 x.mx],.agg #[b0,b1,b2,b3,b4,b5,b6,b7,.float .f64 0,.float .f64 0,.float .f64 0]] W fun e w'=>e=.returned (.bool (fz x))∧Below W.heap.size W w'):=fun a0 a1 a2 a3 a4 a5 a6 a7 b0 b1 b2 b3 b4 b5 b6 b7 W=>by
  have:=sfl_any x.sum x.mn x.mx 0 0 0 h.sum h.mn h.mx (by decide) (by decide) (by decide) a0 a1 a2 a3 a4 a5 a6 a7 b0 b1 b2 b3 b4 b5 b6 b7 W
  rw [fz_sf x h] at this
  exact this
 generalize fz x=z at *
 obtain ⟨⟨kd,nm,hp,D⟩,t,C,n,s,m,M⟩:=x
 clear h
 go_enter Tryz.func41,Tryz.ntmps41
 go_wp2_with (go_at_call 33;with_reducible refine (H1.out _ _ _ _ _ _ _ _ _ _ _ _ _ _ _ _ _).mono ?_;rintro e w1 ⟨rfl,hb⟩)
 go_ret
 exact ⟨rfl,bt (bel1 w _) hb⟩
theorem wf0:Wf 0 0:=⟨by decide,by decide,by decide,by decide⟩
theorem sign_any (t:Int) (h:InR t) (w:World) :
  Calls Tryz.prog 40 #[.agg #[.int .i64 (hiOf t),.int .u64 (loOf t)]] w fun e w'=>e=.returned (.int .i64 (cmp t 0))∧Below w.heap.size w w':=by
 have H1:Hid (∀ W,Calls Tryz.prog 70 #[.agg #[.int .i64 (hiOf t),.int .u64 (loOf t)],.agg #[.int .i64 0,.int .u64 0]] W fun e w'=>e=.returned (.int .i64 (cmp t 0))∧Below W.heap.size W w'):=fun W=>by
  have:=cmp_any (hiOf t) (loOf t) 0 0 (wf_of h) wf0 W
  rw [val_hl] at this
  exact this
 generalize cmp t 0=z at *
 generalize hiOf t=a at *
 generalize loOf t=b at *
 go_enter Tryz.func40,Tryz.ntmps40
 go_wp2_with (go_at_call 70;with_reducible refine (H1.out _).mono ?_;rintro e w1 ⟨rfl,hb⟩)
 go_ret
 exact ⟨rfl,bt (bel1 w _) hb⟩
theorem prod_lt {x y:Nat} (hx:x < 9223372036854775808) (hy:y < 18446744073709551616):x*y < 170141183460469231731687303715884105728:=by
 have:x*y≤9223372036854775807*18446744073709551615:=Nat.mul_le_mul (by omega) (by omega)
 omega
theorem hi_small {z:Int} (h0:0≤z) (h1:z < 170141183460469231731687303715884105728):wrap64 (hiOf z)=hiOf z:=by unfold wrap64 hiOf;omega
theorem times_any (x y:Nat) (hx:x < 9223372036854775808) (hy:y < 18446744073709551616) (w:World) :
  Calls Tryz.prog 76 #[.int .i64 (x:Int),.int .u64 (y:Int)] w fun e w'=>e=.returned (.agg #[.int .i64 (hiOf ((x*y:Nat):Int)),.int .u64 (loOf ((x*y:Nat):Int))])∧Below w.heap.size w w':=by
 have H1:Hid (∀ W,Calls Tryz.prog 109 #[.int .u64 (x:Int),.int .u64 (y:Int)] W fun e w'=>e=.returned (.tuple #[.int .u64 (hiOf ((x*y:Nat):Int)),.int .u64 (loOf ((x*y:Nat):Int))])∧w'=W):=fun W=>by
  have:=cmul_any (x:Int) (y:Int) (by omega) (by omega) (by omega) (by omega) W
  rw [← Int.natCast_mul] at this
  exact this
 have hp:=prod_lt hx hy
 have hw:=hi_small (z:=((x*y:Nat):Int)) (by omega) (by omega)
 have hx':IntKind.u64.wrap (x:Int)=(x:Int):=by rw [IntKind.wrap_u64];omega
 generalize hiOf ((x*y:Nat):Int)=a at *
 generalize loOf ((x*y:Nat):Int)=b at *
 clear hp
 go_enter Tryz.func76,Tryz.ntmps76
 go_wp2_with (go_at_call 109;with_reducible refine (H1.out _).mono ?_;rintro e w1 ⟨rfl,rfl⟩)
 simp [bodyPost,results,Tryz.results76,go_sem]
 exact bel1 w _
def lowN (P:Nat) (C:List Cn):Nat:=(C.map fun c=>lo (2 ^ P) c.1.toNat*c.2).sum
def highN (P:Nat) (C:List Cn):Nat:=(C.map fun c=>hiV P c.1.toNat*c.2).sum
theorem lowN_take (P:Nat) (C:List Cn) (i:Nat) (h:i < C.length):lowN P (C.take (i+1))=lowN P (C.take i)+lo (2 ^ P) C[i].1.toNat*C[i].2:=by
 unfold lowN
 rw [List.take_succ_eq_append_getElem h,List.map_append,List.sum_append]
 simp
theorem highN_take (P:Nat) (C:List Cn) (i:Nat) (h:i < C.length):highN P (C.take (i+1))=highN P (C.take i)+hiV P C[i].1.toNat*C[i].2:=by
 unfold highN
 rw [List.take_succ_eq_append_getElem h,List.map_append,List.sum_append]
 simp
noncomputable def mayE (p:Int) (C:List Cn):Int:=Classical.choose (mayIs_ex p C)
theorem mayE_is (p:Int) (C:List Cn):MayIs p C (mayE p C):=Classical.choose_spec (mayIs_ex p C)
theorem sum_mul_le (C:List Cn) (f:Cn→Nat) (M:Nat) (h:∀ c ∈ C,f c≤M):(C.map fun c=>f c*c.2).sum≤M*(C.map (·.2)).sum:=by
 induction C with
 | nil=>simp
 | cons c C ih =>
  simp only [List.map_cons,List.sum_cons,Nat.mul_add]
  have:=ih (fun d hd=>h d (List.mem_cons_of_mem _ hd))
  have:=Nat.mul_le_mul_right c.2 (h c List.mem_cons_self)
  omega
theorem sum_take_le (C:List Cn) (i:Nat):((C.take i).map (·.2)).sum≤(C.map (·.2)).sum:=by
 conv=>rhs;rw [← List.take_append_drop i C]
 rw [List.map_append,List.sum_append]
 omega
theorem in_may {p:Nat} {C:List Cn} (h:MayIs (p:Int) C 0) {c:Cn} (hc:c ∈ C):c.1.toNat < (64 - p)*2 ^ p∧lo (2 ^ p) c.1.toNat≤9223372036854775807∧hiV p c.1.toNat≤9223372036854775807:=by
 obtain ⟨hp,_,h3⟩:=may_ok h
 obtain ⟨i,hi,rfl⟩:=List.mem_iff_getElem.1 hc
 obtain ⟨g1,g2,_⟩:=h3 i hi
 simp only [Int.toNat_natCast] at g2
 have hlt:C[i].1.toNat < (64 - p)*2 ^ p:=by omega
 have ht:=hi_top hlt (by omega)
 have h2:0 < 2 ^ kk (2 ^ p) C[i].1.toNat:=Nat.two_pow_pos _
 unfold hiV
 refine ⟨hlt,?_,?_⟩ <;> omega
theorem low_bound {p:Nat} {C:List Cn} (h:MayIs (p:Int) C 0) (i:Nat):lowN p (C.take i)≤85070591730234615847396907784232501249∧highN p (C.take i)≤85070591730234615847396907784232501249:=by
 obtain ⟨hp,h2,h3⟩:=may_ok h
 have hs:((C.take i).map (·.2)).sum≤9223372036854775807:=Nat.le_trans (sum_take_le C i) (by exact h2)
 constructor
 ·have:=sum_mul_le (C.take i) (fun c=>lo (2 ^ p) c.1.toNat) 9223372036854775807 (fun c hc=>(in_may h (List.mem_of_mem_take hc)).2.1)
  have k:=Nat.mul_le_mul_left 9223372036854775807 hs
  unfold lowN
  omega
 ·have:=sum_mul_le (C.take i) (fun c=>hiV p c.1.toNat) 9223372036854775807 (fun c hc=>(in_may h (List.mem_of_mem_take hc)).2.2)
  have k:=Nat.mul_le_mul_left 9223372036854775807 hs
  unfold highN
  omega
def btw (p:Int) (x:Vl):Bool:=decide ((lowN p.toNat x.cs:Int)≤x.t) && decide (x.t≤(highN p.toNat x.cs:Int))
noncomputable def cntB (p:Int) (x:Vl):Bool:=decide (mayE p x.cs=0) && decide (x.n=tot x.cs) && btw p x
theorem addN_any {s y:Nat} (hs:s+y < 170141183460469231731687303715884105728) (W:World) :
  Calls Tryz.prog 75 #[.agg #[.int .i64 (hiOf (s:Int)),.int .u64 (loOf (s:Int))],.agg #[.int .i64 (hiOf (y:Int)),.int .u64 (loOf (y:Int))]] W fun e w'=>e=.returned (.agg #[.int .i64 (hiOf ((s+y:Nat):Int)),.int .u64 (loOf ((s+y:Nat):Int))])∧Below W.heap.size W w':=by
 have:=add_any _ _ _ _ (wf_of (n:=(s:Int)) ⟨by omega,by omega⟩) (wf_of (n:=(y:Int)) ⟨by omega,by omega⟩) W
 rw [val_hl,val_hl,rnd_of ⟨by omega,by omega⟩,← Int.natCast_add] at this
 exact this
theorem cmp_le_any (s t:Int) (hs:InR s) (ht:InR t) (W:World) :
  Calls Tryz.prog 70 #[.agg #[.int .i64 (hiOf s),.int .u64 (loOf s)],.agg #[.int .i64 (hiOf t),.int .u64 (loOf t)]] W fun e w'=>e=.returned (.int .i64 (cmp s t))∧Below W.heap.size W w':=by
 have:=cmp_any _ _ _ _ (wf_of hs) (wf_of ht) W
 rw [val_hl,val_hl] at this
 exact this
theorem cmp_le (s t:Int):decide (cmp s t≤0)=decide (s≤t):=by
 apply decide_eq_decide.2
 unfold cmp
 split
 ·omega
 ·split <;> omega
end Go.Proofs.YtfkbjdgbpenflaaGreatDoor
