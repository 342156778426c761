/- VALUES AND SNAPSHOTS in memory. Own work of the verifier. -/
import Derived.Test.YtlgkfeeclgcgbaaGreatDoorZAB
import Derived.Test.YtlgkfeeclgcgbaaGreatDoorZAP
import Derived.Test.YtlgkfeeclgcgbaaGreatDoorZAN
import Derived.Test.YtlgkfeeclgcgbaaGreatDoorZAE
import Derived.Test.YtlgkfeeclgcgbaaGreatDoorZAS
import Derived.Test.YtlgkfeeclgcgbaaGreatDoorZAC
import Derived.Deep.RegionHeld3
namespace Go.Proofs.YtlgkfeeclgcgbaaGreatDoor
open Go.RowKit Me
structure Vl where
 d:La.Ds
 t:Int
 cs:List Cn
 n:Nat
 sum:Nat
 mn:Nat
 mx:Nat
abbrev vx (x:Vl) (lv cv:Value):Value:=.agg #[.int .i64 x.d.kind,.string ⟨x.d.name.toArray⟩,.string ⟨x.d.help.toArray⟩,lv,.int .i64 (hiOf x.t),.int .u64 (loOf x.t),cv,.int .u64 (x.n:Int),.float .f64 x.sum,.float .f64 x.mn,.float .f64 x.mx]
abbrev vc (x:Vl) (lv cv:Value):Array Value:=#[.int .i64 x.d.kind,.string ⟨x.d.name.toArray⟩,.string ⟨x.d.help.toArray⟩,lv,.int .i64 (hiOf x.t),.int .u64 (loOf x.t),cv,.int .u64 (x.n:Int),.float .f64 x.sum,.float .f64 x.mn,.float .f64 x.mx]
structure VW (x:Vl):Prop where
 t:InR x.t
 cs:Wc x.cs
 cl:x.cs.length≤8796093022208
 n:x.n < 18446744073709551616
 sum:x.sum < 18446744073709551616
 mn:x.mn < 18446744073709551616
 mx:x.mx < 18446744073709551616
 d:La.DsS x.d
def SLb (W:World) (v:Value) (L:List La.Lb):Prop:=(v=.slice none 0 0∧L=[])∨(∃ b o cap,v=.slice (some ⟨b,o,none⟩) L.length cap∧L.length≤cap∧cap≤9223372036854775807∧La.RowL W b o L)∨∃ a cap,v=.slice (some a) L.length cap∧cap≤9223372036854775807∧L=[]
theorem SLb.below {W W1:World} {v:Value} {L:List La.Lb} (h:SLb W v L) (hb:Below W.heap.size W W1):SLb W1 v L:=by
 rcases h with h | ⟨b,o,cap,h1,h2,h3,hr⟩ | h
 ·exact Or.inl h
 ·exact Or.inr (Or.inl ⟨b,o,cap,h1,h2,h3,hr.below hb⟩)
 ·exact Or.inr (Or.inr h)
theorem SLb.form {W:World} {v:Value} {L:List La.Lb} (h:SLb W v L):∃ ao cap,v=.slice ao L.length cap:=by
 rcases h with ⟨rfl,rfl⟩ | ⟨b,o,cap,rfl,_⟩ | ⟨a,cap,rfl,_⟩
 ·exact ⟨_,_,rfl⟩
 ·exact ⟨_,_,rfl⟩
 ·exact ⟨_,_,rfl⟩
theorem SN.form {W:World} {v:Value} {L:List Cn} (h:SN W v L):∃ ao cap,v=.slice ao L.length cap:=by
 rcases h with ⟨rfl,rfl⟩ | ⟨a,cap,rfl,_⟩
 ·exact ⟨_,_,rfl⟩
 ·exact ⟨_,_,rfl⟩
theorem SLb.dsc {W:World} {v:Value} {d:La.Ds} (h:SLb W v d.labels):La.DsC W d (.agg #[.int .i64 d.kind,.string ⟨d.name.toArray⟩,.string ⟨d.help.toArray⟩,v]):=by
 rcases h with ⟨rfl,h2⟩ | ⟨b,o,cap,rfl,h2,h3,hr⟩ | ⟨a,cap,rfl,h3,h2⟩
 ·exact ⟨none,0,0,0,by rw [h2];rfl,fun k=>absurd h2 k,by rw [h2];exact Nat.le_refl _,by omega,by rw [h2];exact fun i hi=>by simp at hi⟩
 ·exact ⟨_,b,o,cap,rfl,fun _=>rfl,h2,h3,hr⟩
 ·exact ⟨_,0,0,cap,rfl,fun k=>absurd h2 k,by rw [h2];exact Nat.zero_le _,h3,by rw [h2];exact fun i hi=>by simp at hi⟩
def VAt (W:World) (x:Vl) (v:Value):Prop:=∃ lv cv,v=vx x lv cv∧SLb W lv x.d.labels∧SN W cv x.cs
theorem VAt.below {W W1:World} {x:Vl} {v:Value} (h:VAt W x v) (hb:Below W.heap.size W W1):VAt W1 x v:=by
 obtain ⟨lv,cv,e,h1,h2⟩:=h
 exact ⟨lv,cv,e,h1.below hb,h2.below hb⟩
structure C11 (W:World) (b o:Nat) (x:Vl) (lv cv:Value):Prop where
 c0:W.cell? ⟨b,o,none⟩=some (.int .i64 x.d.kind)
 c1:W.cell? ⟨b,o+1,none⟩=some (.string ⟨x.d.name.toArray⟩)
 c2:W.cell? ⟨b,o+2,none⟩=some (.string ⟨x.d.help.toArray⟩)
 c3:W.cell? ⟨b,o+3,none⟩=some lv
 c4:W.cell? ⟨b,o+4,none⟩=some (.int .i64 (hiOf x.t))
 c5:W.cell? ⟨b,o+5,none⟩=some (.int .u64 (loOf x.t))
 c6:W.cell? ⟨b,o+6,none⟩=some cv
 c7:W.cell? ⟨b,o+7,none⟩=some (.int .u64 (x.n:Int))
 c8:W.cell? ⟨b,o+8,none⟩=some (.float .f64 x.sum)
 c9:W.cell? ⟨b,o+9,none⟩=some (.float .f64 x.mn)
 c10:W.cell? ⟨b,o+10,none⟩=some (.float .f64 x.mx)
theorem cellB {W W':World} {a:Addr} {u:Value} (hb:Below W.heap.size W W') (h:W.cell? a=some u):W'.cell? a=some u:=(hb.cell (p:=a) (World.block_lt_of_cell? W a h)).trans h
theorem C11.below {W W1:World} {b o:Nat} {x:Vl} {lv cv:Value} (h:C11 W b o x lv cv) (hb:Below W.heap.size W W1):C11 W1 b o x lv cv :=
 ⟨cellB hb h.c0,cellB hb h.c1,cellB hb h.c2,cellB hb h.c3,cellB hb h.c4,cellB hb h.c5,cellB hb h.c6,cellB hb h.c7,cellB hb h.c8,cellB hb h.c9,cellB hb h.c10⟩
structure B11 (W:World) (b:Nat) (x:Vl) (lv cv:Value):Prop where
 c0:W.cell? ⟨b,0,none⟩=some (.int .i64 x.d.kind)
 c1:W.cell? ⟨b,1,none⟩=some (.string ⟨x.d.name.toArray⟩)
 c2:W.cell? ⟨b,2,none⟩=some (.string ⟨x.d.help.toArray⟩)
 c3:W.cell? ⟨b,3,none⟩=some lv
 c4:W.cell? ⟨b,4,none⟩=some (.int .i64 (hiOf x.t))
 c5:W.cell? ⟨b,5,none⟩=some (.int .u64 (loOf x.t))
 c6:W.cell? ⟨b,6,none⟩=some cv
 c7:W.cell? ⟨b,7,none⟩=some (.int .u64 (x.n:Int))
 c8:W.cell? ⟨b,8,none⟩=some (.float .f64 x.sum)
 c9:W.cell? ⟨b,9,none⟩=some (.float .f64 x.mn)
 c10:W.cell? ⟨b,10,none⟩=some (.float .f64 x.mx)
theorem B11.below {W W1:World} {b:Nat} {x:Vl} {lv cv:Value} (h:B11 W b x lv cv) (hb:Below W.heap.size W W1):B11 W1 b x lv cv :=
 ⟨cellB hb h.c0,cellB hb h.c1,cellB hb h.c2,cellB hb h.c3,cellB hb h.c4,cellB hb h.c5,cellB hb h.c6,cellB hb h.c7,cellB hb h.c8,cellB hb h.c9,cellB hb h.c10⟩
structure KV (w:World) (b:Nat) (x:Vl) (lv cv:Value) (W:World):Prop where
 box:B11 W b x lv cv
 l:SLb W lv x.d.labels
 c:SN W cv x.cs
 bl:Below w.heap.size w W
theorem KV.below {w W W1:World} {b:Nat} {x:Vl} {lv cv:Value} (h:KV w b x lv cv W) (hb:Below W.heap.size W W1):KV w b x lv cv W1:=⟨h.box.below hb,h.l.below hb,h.c.below hb,bt h.bl hb⟩
def RowV (W:World) (b o:Nat) (L:List Vl):Prop:=∀ i (h:i < L.length),∃ lv cv,C11 W b (o+i*11) L[i] lv cv∧SLb W lv L[i].d.labels∧SN W cv L[i].cs
theorem RowV.below {W W1:World} {b o:Nat} {L:List Vl} (h:RowV W b o L) (hb:Below W.heap.size W W1):RowV W1 b o L:=fun i hi=>by
 obtain ⟨lv,cv,h1,h2,h3⟩:=h i hi
 exact ⟨lv,cv,h1.below hb,h2.below hb,h3.below hb⟩
def SV (W:World) (v:Value) (L:List Vl):Prop:=(v=.slice none 0 0∧L=[])∨∃ b o cap,v=.slice (some ⟨b,o,none⟩) L.length cap∧L.length≤cap∧cap≤9223372036854775807∧RowV W b o L
theorem SV.below {W W1:World} {v:Value} {L:List Vl} (h:SV W v L) (hb:Below W.heap.size W W1):SV W1 v L:=by
 rcases h with h | ⟨b,o,cap,h1,h2,h3,hr⟩
 ·exact Or.inl h
 ·exact Or.inr ⟨b,o,cap,h1,h2,h3,hr.below hb⟩
theorem SV.open {W:World} {v:Value} {L:List Vl} (h:SV W v L):∃ ao b o cap,v=.slice ao L.length cap∧(L≠[]→ao=some ⟨b,o,none⟩)∧L.length≤cap∧cap≤9223372036854775807∧RowV W b o L:=by
 rcases h with ⟨rfl,rfl⟩ | ⟨b,o,cap,rfl,h2,h3,hr⟩
 ·exact ⟨none,0,0,0,rfl,fun k=>absurd rfl k,Nat.le_refl _,by omega,fun i hi=>by simp at hi⟩
 ·exact ⟨_,b,o,cap,rfl,fun _=>rfl,h2,h3,hr⟩
structure Sn where
 p:Int
 vs:List Vl
 r:Nat
def SnAt (W:World) (s:Sn) (v:Value):Prop:=∃ u,v=.agg #[.int .i64 s.p,u,.int .u64 (s.r:Int)]∧SV W u s.vs
theorem SnAt.below {W W1:World} {s:Sn} {v:Value} (h:SnAt W s v) (hb:Below W.heap.size W W1):SnAt W1 s v:=by
 obtain ⟨u,e,h1⟩:=h
 exact ⟨u,e,h1.below hb⟩
structure SnW (s:Sn):Prop where
 vs:∀ x ∈ s.vs,VW x
 r:s.r < 18446744073709551616
theorem newB11 (w:World) (x:Vl) (lv cv:Value) (t:TypeId):B11 (w.alloc (.cells (vc x lv cv) t)) w.heap.size x lv cv:=by
 constructor <;> simp [go_sem]
theorem KV.new {w:World} {x:Vl} {lv cv:Value} (hl:SLb w lv x.d.labels) (hc:SN w cv x.cs) (t:TypeId):KV w w.heap.size x lv cv (w.alloc (.cells (vc x lv cv) t)):=⟨newB11 w x lv cv t,hl.below (bel1 _ _),hc.below (bel1 _ _),bel1 _ _⟩
theorem KV.new2 {w:World} {x y:Vl} {lv cv lw cw:Value} (hl:SLb w lv x.d.labels) (hc:SN w cv x.cs) (hl':SLb w lw y.d.labels) (hc':SN w cw y.cs) (t:TypeId) :
  KV w w.heap.size x lv cv ((w.alloc (.cells (vc x lv cv) t)).alloc (.cells (vc y lw cw) t))∧KV w (w.heap.size+1) y lw cw ((w.alloc (.cells (vc x lv cv) t)).alloc (.cells (vc y lw cw) t)):=by
 have h1:=KV.new hl hc t
 refine ⟨h1.below (bel1 _ _),?_⟩
 have h2:=newB11 (w.alloc (.cells (vc x lv cv) t)) y lw cw t
 rw [show (w.alloc (.cells (vc x lv cv) t)).heap.size=w.heap.size+1 by simp] at h2
 exact ⟨h2,hl'.below (bel2 _ _ _),hc'.below (bel2 _ _ _),bel2 _ _ _⟩
theorem bel_drewNB {B:Nat} {a w:World} (h:Below B a w) (n:Nat):Below B a (w.drewN n):=by
 induction n with
 | zero=>exact h
 | succ n ih=>exact ⟨ih.os,ih.tape,ih.output,ih.size,ih.block⟩
end Go.Proofs.YtlgkfeeclgcgbaaGreatDoor
/- WHAT A VALUE HOLDS: floats, products, signs. Own work of the verifier. -/
set_option maxRecDepth 100000
set_option maxHeartbeats 2000000
namespace Go.Proofs.YtlgkfeeclgcgbaaGreatDoor
open Go.RowKit Me
def fz (x:Vl):Bool:=decide (x.sum=0) && decide (x.mn=0) && decide (x.mx=0)
theorem sfl_any (s1 m1 x1 s2 m2 x2:Nat) (h1:s1 < 18446744073709551616) (h2:m1 < 18446744073709551616) (h3:x1 < 18446744073709551616) (h4:s2 < 18446744073709551616) (h5:m2 < 18446744073709551616) (h6:x2 < 18446744073709551616)
  (a0 a1 a2 a3 a4 a5 a6 a7 b0 b1 b2 b3 b4 b5 b6 b7:Value) (w:World) :
  Calls Tryz.prog 83 #[.agg #[a0,a1,a2,a3,a4,a5,a6,a7,.float .f64 s1,.float .f64 m1,.float .f64 x1],.agg #[b0,b1,b2,b3,b4,b5,b6,b7,.float .f64 s2,.float .f64 m2,.float .f64 x2]] w fun e w'=>e=.returned (.bool (Re.sF s1 s2 && Re.sF m1 m2 && Re.sF x1 x2))∧Below w.heap.size w w':=by
 have H1:Hid (∀ W,Calls Tryz.prog 111 #[.float .f64 s1,.float .f64 s2] W fun e w'=>e=.returned (.bool (Re.sF s1 s2))∧w'=W):=fun W=>Re.same_any s1 s2 h1 h4 W
 have H2:Hid (∀ W,Calls Tryz.prog 111 #[.float .f64 m1,.float .f64 m2] W fun e w'=>e=.returned (.bool (Re.sF m1 m2))∧w'=W):=fun W=>Re.same_any m1 m2 h2 h5 W
 have H3:Hid (∀ W,Calls Tryz.prog 111 #[.float .f64 x1,.float .f64 x2] W fun e w'=>e=.returned (.bool (Re.sF x1 x2))∧w'=W):=fun W=>Re.same_any x1 x2 h3 h6 W
 generalize Re.sF s1 s2=p at *
 generalize Re.sF m1 m2=q at *
 generalize Re.sF x1 x2=r at *
 clear h1 h2 h3 h4 h5 h6
 cases p <;> cases q <;> cases r
 all_goals as_aux_lemma =>
  go_enter Tryz.func83,Tryz.ntmps83
  go_wp2_with (go_at_call 111;(first | (with_reducible refine (H1.out _).mono ?_) | (with_reducible refine (H2.out _).mono ?_) | (with_reducible refine (H3.out _).mono ?_));rintro e w1 ⟨rfl,rfl⟩)
  go_ret
  exact ⟨rfl,bel2 w _ _⟩
theorem fz_sf (x:Vl) (h:VW x):(Re.sF x.sum 0 && Re.sF x.mn 0 && Re.sF x.mx 0)=fz x:=by
 unfold fz
 rw [Re.zero_rk _ h.sum,Re.zero_rk _ h.mn,Re.zero_rk _ h.mx]
theorem nofl_any (x:Vl) (lv cv:Value) (h:VW x) (w:World) :
  Calls Tryz.prog 66 #[vx x lv cv] w fun e w'=>e=.returned (.bool (fz x))∧Below w.heap.size w w':=by
 have H1:Hid (∀ a0 a1 a2 a3 a4 a5 a6 a7 b0 b1 b2 b3 b4 b5 b6 b7 W,Calls Tryz.prog 83 #[.agg #[a0,a1,a2,a3,a4,a5,a6,a7,.float .f64 x.sum,.float .f64 x.mn,.float .f64 x.mx],.agg #[b0,b1,b2,b3,b4,b5,b6,b7,.float .f64 0,.float .f64 0,.float .f64 0]] W fun e w'=>e=.returned (.bool (fz x))∧Below W.heap.size W w'):=fun a0 a1 a2 a3 a4 a5 a6 a7 b0 b1 b2 b3 b4 b5 b6 b7 W=>by
  have:=sfl_any x.sum x.mn x.mx 0 0 0 h.sum h.mn h.mx (by decide) (by decide) (by decide) a0 a1 a2 a3 a4 a5 a6 a7 b0 b1 b2 b3 b4 b5 b6 b7 W
  rw [fz_sf x h] at this
  exact this
 generalize fz x=z at *
 obtain ⟨⟨kd,nm,hp,D⟩,t,C,n,s,m,M⟩:=x
 clear h
 go_enter Tryz.func66,Tryz.ntmps66
 go_wp2_with (go_at_call 83;with_reducible refine (H1.out _ _ _ _ _ _ _ _ _ _ _ _ _ _ _ _ _).mono ?_;rintro e w1 ⟨rfl,hb⟩)
 go_ret
 exact ⟨rfl,bt (bel1 w _) hb⟩
theorem wf0:Wf 0 0:=⟨by decide,by decide,by decide,by decide⟩
theorem sign_any (t:Int) (h:InR t) (w:World) :
  Calls Tryz.prog 65 #[.agg #[.int .i64 (hiOf t),.int .u64 (loOf t)]] w fun e w'=>e=.returned (.int .i64 (cmp t 0))∧Below w.heap.size w w':=by
 have H1:Hid (∀ W,Calls Tryz.prog 82 #[.agg #[.int .i64 (hiOf t),.int .u64 (loOf t)],.agg #[.int .i64 0,.int .u64 0]] W fun e w'=>e=.returned (.int .i64 (cmp t 0))∧Below W.heap.size W w'):=fun W=>by
  have:=cmp_any (hiOf t) (loOf t) 0 0 (wf_of h) wf0 W
  rw [val_hl] at this
  exact this
 generalize cmp t 0=z at *
 generalize hiOf t=a at *
 generalize loOf t=b at *
 go_enter Tryz.func65,Tryz.ntmps65
 go_wp2_with (go_at_call 82;with_reducible refine (H1.out _).mono ?_;rintro e w1 ⟨rfl,hb⟩)
 go_ret
 exact ⟨rfl,bt (bel1 w _) hb⟩
theorem prod_lt {x y:Nat} (hx:x < 9223372036854775808) (hy:y < 18446744073709551616):x*y < 170141183460469231731687303715884105728:=by
 have:x*y≤9223372036854775807*18446744073709551615:=Nat.mul_le_mul (by omega) (by omega)
 omega
theorem hi_small {z:Int} (h0:0≤z) (h1:z < 170141183460469231731687303715884105728):wrap64 (hiOf z)=hiOf z:=by unfold wrap64 hiOf;omega
theorem times_any (x y:Nat) (hx:x < 9223372036854775808) (hy:y < 18446744073709551616) (w:World) :
  Calls Tryz.prog 89 #[.int .i64 (x:Int),.int .u64 (y:Int)] w fun e w'=>e=.returned (.agg #[.int .i64 (hiOf ((x*y:Nat):Int)),.int .u64 (loOf ((x*y:Nat):Int))])∧Below w.heap.size w w':=by
 have H1:Hid (∀ W,Calls Tryz.prog 117 #[.int .u64 (x:Int),.int .u64 (y:Int)] W fun e w'=>e=.returned (.tuple #[.int .u64 (hiOf ((x*y:Nat):Int)),.int .u64 (loOf ((x*y:Nat):Int))])∧w'=W):=fun W=>by
  have:=cmul_any (x:Int) (y:Int) (by omega) (by omega) (by omega) (by omega) W
  rw [← Int.natCast_mul] at this
  exact this
 have hp:=prod_lt hx hy
 have hw:=hi_small (z:=((x*y:Nat):Int)) (by omega) (by omega)
 have hx':IntKind.u64.wrap (x:Int)=(x:Int):=by rw [IntKind.wrap_u64];omega
 generalize hiOf ((x*y:Nat):Int)=a at *
 generalize loOf ((x*y:Nat):Int)=b at *
 clear hp
 go_enter Tryz.func89,Tryz.ntmps89
 go_wp2_with (go_at_call 117;with_reducible refine (H1.out _).mono ?_;rintro e w1 ⟨rfl,rfl⟩)
 simp [bodyPost,results,Tryz.results89,go_sem]
 exact bel1 w _
end Go.Proofs.YtlgkfeeclgcgbaaGreatDoor
/- WHAT A VALUE HOLDS: counts. Own work of the verifier. -/
namespace Go.Proofs.YtlgkfeeclgcgbaaGreatDoor
open Go.RowKit Me
def lowN (P:Nat) (C:List Cn):Nat:=(C.map fun c=>lo (2 ^ P) c.1.toNat*c.2).sum
def highN (P:Nat) (C:List Cn):Nat:=(C.map fun c=>hiV P c.1.toNat*c.2).sum
theorem lowN_take (P:Nat) (C:List Cn) (i:Nat) (h:i < C.length):lowN P (C.take (i+1))=lowN P (C.take i)+lo (2 ^ P) C[i].1.toNat*C[i].2:=by
 unfold lowN
 rw [List.take_succ_eq_append_getElem h,List.map_append,List.sum_append]
 simp
theorem highN_take (P:Nat) (C:List Cn) (i:Nat) (h:i < C.length):highN P (C.take (i+1))=highN P (C.take i)+hiV P C[i].1.toNat*C[i].2:=by
 unfold highN
 rw [List.take_succ_eq_append_getElem h,List.map_append,List.sum_append]
 simp
noncomputable def mayE (p:Int) (C:List Cn):Int:=Classical.choose (mayIs_ex p C)
theorem mayE_is (p:Int) (C:List Cn):MayIs p C (mayE p C):=Classical.choose_spec (mayIs_ex p C)
theorem sum_mul_le (C:List Cn) (f:Cn→Nat) (M:Nat) (h:∀ c ∈ C,f c≤M):(C.map fun c=>f c*c.2).sum≤M*(C.map (·.2)).sum:=by
 induction C with
 | nil=>simp
 | cons c C ih =>
  simp only [List.map_cons,List.sum_cons,Nat.mul_add]
  have:=ih (fun d hd=>h d (List.mem_cons_of_mem _ hd))
  have:=Nat.mul_le_mul_right c.2 (h c List.mem_cons_self)
  omega
theorem sum_take_le (C:List Cn) (i:Nat):((C.take i).map (·.2)).sum≤(C.map (·.2)).sum:=by
 conv=>rhs;rw [← List.take_append_drop i C]
 rw [List.map_append,List.sum_append]
 omega
theorem in_may {p:Nat} {C:List Cn} (h:MayIs (p:Int) C 0) {c:Cn} (hc:c ∈ C):c.1.toNat < (64 - p)*2 ^ p∧lo (2 ^ p) c.1.toNat≤9223372036854775807∧hiV p c.1.toNat≤9223372036854775807:=by
 obtain ⟨hp,_,h3⟩:=may_ok h
 obtain ⟨i,hi,rfl⟩:=List.mem_iff_getElem.1 hc
 obtain ⟨g1,g2,_⟩:=h3 i hi
 simp only [Int.toNat_natCast] at g2
 have hlt:C[i].1.toNat < (64 - p)*2 ^ p:=by omega
 have ht:=hi_top hlt (by omega)
 have h2:0 < 2 ^ kk (2 ^ p) C[i].1.toNat:=Nat.two_pow_pos _
 unfold hiV
 refine ⟨hlt,?_,?_⟩ <;> omega
theorem low_bound {p:Nat} {C:List Cn} (h:MayIs (p:Int) C 0) (i:Nat):lowN p (C.take i)≤85070591730234615847396907784232501249∧highN p (C.take i)≤85070591730234615847396907784232501249:=by
 obtain ⟨hp,h2,h3⟩:=may_ok h
 have hs:((C.take i).map (·.2)).sum≤9223372036854775807:=Nat.le_trans (sum_take_le C i) (by exact h2)
 constructor
 ·have:=sum_mul_le (C.take i) (fun c=>lo (2 ^ p) c.1.toNat) 9223372036854775807 (fun c hc=>(in_may h (List.mem_of_mem_take hc)).2.1)
  have k:=Nat.mul_le_mul_left 9223372036854775807 hs
  unfold lowN
  omega
 ·have:=sum_mul_le (C.take i) (fun c=>hiV p c.1.toNat) 9223372036854775807 (fun c hc=>(in_may h (List.mem_of_mem_take hc)).2.2)
  have k:=Nat.mul_le_mul_left 9223372036854775807 hs
  unfold highN
  omega
def btw (p:Int) (x:Vl):Bool:=decide ((lowN p.toNat x.cs:Int)≤x.t) && decide (x.t≤(highN p.toNat x.cs:Int))
noncomputable def cntB (p:Int) (x:Vl):Bool:=decide (mayE p x.cs=0) && decide (x.n=tot x.cs) && btw p x
theorem addN_any {s y:Nat} (hs:s+y < 170141183460469231731687303715884105728) (W:World) :
  Calls Tryz.prog 88 #[.agg #[.int .i64 (hiOf (s:Int)),.int .u64 (loOf (s:Int))],.agg #[.int .i64 (hiOf (y:Int)),.int .u64 (loOf (y:Int))]] W fun e w'=>e=.returned (.agg #[.int .i64 (hiOf ((s+y:Nat):Int)),.int .u64 (loOf ((s+y:Nat):Int))])∧Below W.heap.size W w':=by
 have:=add_any _ _ _ _ (wf_of (n:=(s:Int)) ⟨by omega,by omega⟩) (wf_of (n:=(y:Int)) ⟨by omega,by omega⟩) W
 rw [val_hl,val_hl,rnd_of ⟨by omega,by omega⟩,← Int.natCast_add] at this
 exact this
theorem cmp_le_any (s t:Int) (hs:InR s) (ht:InR t) (W:World) :
  Calls Tryz.prog 82 #[.agg #[.int .i64 (hiOf s),.int .u64 (loOf s)],.agg #[.int .i64 (hiOf t),.int .u64 (loOf t)]] W fun e w'=>e=.returned (.int .i64 (cmp s t))∧Below W.heap.size W w':=by
 have:=cmp_any _ _ _ _ (wf_of hs) (wf_of ht) W
 rw [val_hl,val_hl] at this
 exact this
theorem cmp_le (s t:Int):decide (cmp s t≤0)=decide (s≤t):=by
 apply decide_eq_decide.2
 unfold cmp
 split
 ·omega
 ·split <;> omega
end Go.Proofs.YtlgkfeeclgcgbaaGreatDoor
/- WHAT A VALUE HOLDS: holdsCounts. Own work of the verifier. -/
set_option maxRecDepth 100000
set_option maxHeartbeats 4000000
namespace Go.Proofs.YtlgkfeeclgcgbaaGreatDoor
open Go.RowKit Me
structure KL (w1:World) (s1 s2:Nat) (W:World):Prop where
 g1:W.heap[w1.heap.size]? =some (.cells #[.int .i64 (hiOf (s1:Int)),.int .u64 (loOf (s1:Int))] 83 (0,0))
 g2:W.heap[w1.heap.size+1]? =some (.cells #[.int .i64 (hiOf (s2:Int)),.int .u64 (loOf (s2:Int))] 83 (0,0))
 bl:Below w1.heap.size w1 W
theorem hkN {k:Nat} {o:Obj} {W W':World} (h:W.heap[k]? =some o) (hb:Below W.heap.size W W'):W'.heap[k]? =some o:=(hb.block k (Array.getElem?_eq_some_iff.1 h).1).trans h
theorem KL.below {w1 W W':World} {s1 s2:Nat} (h:KL w1 s1 s2 W) (hb:Below W.heap.size W W'):KL w1 s1 s2 W':=⟨hkN h.g1 hb,hkN h.g2 hb,bt h.bl hb⟩
theorem KL.new (w:World):KL w 0 0 ((w.alloc (.cells #[.int .i64 0,.int .u64 0] 83)).alloc (.cells #[.int .i64 0,.int .u64 0] 83)):=by
 refine ⟨?_,?_,bel2 w _ _⟩
 ·exact hkN (new_1 w _) (bel1 _ _)
 ·have:=new_1 (w.alloc (.cells #[.int .i64 0,.int .u64 0] 83)) (.cells #[.int .i64 0,.int .u64 0] 83)
  rw [show (w.alloc (.cells #[.int .i64 0,.int .u64 0] 83)).heap.size=w.heap.size+1 by simp] at this
  exact this
theorem two_at {W:World} {b:Nat} {x y:Value} {t:TypeId} (h:W.heap[b]? =some (.cells #[x,y] t (0,0))):W.cell? ⟨b,0,none⟩=some x∧W.cell? ⟨b,1,none⟩=some y∧W.frozen? ⟨b,0,none⟩=false∧W.frozen? ⟨b,1,none⟩=false:=by
 refine ⟨?_,?_,?_,?_⟩ <;> simp [World.cell?,World.frozen?,h]
theorem heap_same {W:World} {b:Nat} {x y x' y':Value} {t:TypeId} (h:W.heap[b]? =some (.cells #[x,y] t (0,0))):((W.setCell ⟨b,0,none⟩ x').setCell ⟨b,1,none⟩ y').heap[b]? =some (.cells #[x',y'] t (0,0)):=by
 have h1:(W.setCell ⟨b,0,none⟩ x').heap[b]? =some (.cells #[x',y] t (0,0)):=by rw [heap_setCell_same _ b 0 _ _ _ h];rfl
 rw [heap_setCell_same _ b 1 _ _ _ h1];rfl
theorem set2_bel {a W:World} {B b:Nat} {x y:Value} (h:Below B a W) (hb:B≤b):Below B a ((W.setCell ⟨b,0,none⟩ x).setCell ⟨b,1,none⟩ y):=(h.setCell (p:=⟨b,0,none⟩) hb x).setCell (p:=⟨b,1,none⟩) hb y
theorem KL.set1 {w1 W:World} {s1 s2 t:Nat} (h:KL w1 s1 s2 W):KL w1 t s2 ((W.setCell ⟨w1.heap.size,0,none⟩ (.int .i64 (hiOf (t:Int)))).setCell ⟨w1.heap.size,1,none⟩ (.int .u64 (loOf (t:Int)))) :=
 ⟨heap_same h.g1,by rw [heap_other _ _ _ _ (by simp),heap_other _ _ _ _ (by simp)];exact h.g2,set2_bel h.bl (Nat.le_refl _)⟩
theorem KL.set2 {w1 W:World} {s1 s2 t:Nat} (h:KL w1 s1 s2 W):KL w1 s1 t ((W.setCell ⟨w1.heap.size+1,0,none⟩ (.int .i64 (hiOf (t:Int)))).setCell ⟨w1.heap.size+1,1,none⟩ (.int .u64 (loOf (t:Int)))) :=
 ⟨by rw [heap_other _ _ _ _ (by simp),heap_other _ _ _ _ (by simp)];exact h.g1,heap_same h.g2,set2_bel h.bl (by omega)⟩
abbrev S9h (w2:World) (a b:Nat) (x y z:Value) (s1 s2:Nat) (W:World):Prop:=W.cell? ⟨a,0,none⟩=some x∧W.cell? ⟨a,1,none⟩=some y∧W.cell? ⟨b,1,none⟩=some z∧W.frozen? ⟨a,0,none⟩=false∧W.frozen? ⟨a,1,none⟩=false∧KL w2 s1 s2 W
theorem frozB {W W':World} {a:Addr} (hb:Below W.heap.size W W') (hl:a.block < W.heap.size) (h:W.frozen? a=false):W'.frozen? a=false:=(hb.frozen (p:=a) hl).trans h
theorem keepS {w2 W W1:World} {a b:Nat} {x y z:Value} {s1 s2:Nat} (hb:Below W.heap.size W W1) (h:S9h w2 a b x y z s1 s2 W):S9h w2 a b x y z s1 s2 W1 :=
 ⟨cellB hb h.1,cellB hb h.2.1,cellB hb h.2.2.1,frozB hb (lt_of_cell h.1) h.2.2.2.1,frozB hb (lt_of_cell h.2.1) h.2.2.2.2.1,h.2.2.2.2.2.below hb⟩
theorem cell_set2 {W:World} {a c k:Nat} {x y z:Value} (h:W.cell? ⟨c,k,none⟩=some z) (hne:c≠a):((W.setCell ⟨a,0,none⟩ x).setCell ⟨a,1,none⟩ y).cell? ⟨c,k,none⟩=some z:=by
 rw [← h]
 unfold World.cell?
 simp only
 rw [heap_other _ _ _ _ (by simpa using hne),heap_other _ _ _ _ (by simpa using hne)]
theorem new_cell1 (w:World) (x y:Value) (t:TypeId):(w.alloc (.cells #[x,y] t)).cell? ⟨w.heap.size,1,none⟩=some y:=by simp [go_sem]
theorem keepK {w W W1:World} {b:Nat} {x:Vl} {lv cv u v:Value} (hb:Below W.heap.size W W1)
  (h:W.cell? ⟨b,6,none⟩=some u∧W.cell? ⟨b,7,none⟩=some v∧KV w b x lv cv W):W1.cell? ⟨b,6,none⟩=some u∧W1.cell? ⟨b,7,none⟩=some v∧KV w b x lv cv W1:=⟨cellB hb h.1,cellB hb h.2.1,h.2.2.below hb⟩
abbrev S1h (w:World) (x:Vl) (lv cv:Value) (W:World):Prop:=W.cell? ⟨w.heap.size,6,none⟩=some cv∧W.cell? ⟨w.heap.size,7,none⟩=some (.int .u64 (x.n:Int))∧KV w w.heap.size x lv cv W
theorem drew_bel (W:World):Below W.heap.size W W.drew:=bel_drewB (Below.refl _ _)
theorem hc_loop (P : Nat) (x : Vl) (la ca : Option Addr) (lc cc : Nat) (h : VW x) (w : World) (hl : SLb w (.slice la x.d.labels.length lc) x.d.labels) (hc : SN w (.slice ca x.cs.length cc) x.cs) (hM : MayIs (P : Int) x.cs 0) (hn : x.n = tot x.cs) :
    Calls Tryz.prog 67 #[.int .i64 (P : Int), vx x (.slice la x.d.labels.length lc) (.slice ca x.cs.length cc)] w fun e w' => e = .returned (.bool (btw (P : Int) x)) ∧ Below w.heap.size w w' := by
  obtain ⟨hp, hs2, h3⟩ := may_ok hM
  have HMay : Hid (∀ W, S1h w x (.slice la x.d.labels.length lc) (.slice ca x.cs.length cc) W → Calls Tryz.prog 84 #[.int .i64 (P : Int), .slice ca x.cs.length cc] W fun e w' => e = .returned (.int .i64 0) ∧ Below W.heap.size W w') := fun W k => may_any W _ _ _ 0 k.2.2.c h.cs h.cl hM
  have HTot : Hid (∀ W, S1h w x (.slice la x.d.labels.length lc) (.slice ca x.cs.length cc) W → Calls Tryz.prog 85 #[.slice ca x.cs.length cc] W fun e w' => e = .returned (.int .u64 (x.n : Int)) ∧ Below W.heap.size W w') := fun W k => by
    rw [hn]
    exact total_any W _ _ k.2.2.c h.cs h.cl
  have HK0 : Hid (∀ T, KV w w.heap.size x (.slice la x.d.labels.length lc) (.slice ca x.cs.length cc) (w.alloc (.cells (vc x (.slice la x.d.labels.length lc) (.slice ca x.cs.length cc)) T))) := fun T => KV.new hl hc T
  have HM := hid_of hM
  have H3 := hid_of h3
  have HT := hid_of h.t
  have HCl := hid_of h.cl
  have HW := hid_of h.cs
  clear hl hc hM hn h3 h hs2
  go_enter Tryz.func67, Tryz.ntmps67
  go_upto_region 1 with fail
  have hK := HK0.out 86
  obtain ⟨w0, hw0⟩ : ∃ w0, w.alloc (.cells (vc x (.slice la x.d.labels.length lc) (.slice ca x.cs.length cc)) 86) = w0 := ⟨_, rfl⟩
  have hw0' := hw0
  simp only [vc] at hw0'
  rw [hw0] at hK
  rw [hw0']
  have hG0 := (⟨hK.box.c6, hK.box.c7, hK⟩ : w0.cell? ⟨w.heap.size, 6, none⟩ = _ ∧ w0.cell? ⟨w.heap.size, 7, none⟩ = _ ∧ KV w w.heap.size x (.slice la x.d.labels.length lc) (.slice ca x.cs.length cc) w0)
  clear hw0 hw0' HK0 hK
  go_region_held3 (fun W => W.cell? ⟨w.heap.size, 6, none⟩ = some (.slice ca x.cs.length cc) ∧ W.cell? ⟨w.heap.size, 7, none⟩ = some (.int .u64 (x.n : Int)) ∧ KV w w.heap.size x (.slice la x.d.labels.length lc) (.slice ca x.cs.length cc) W)
    (first | assumption | exact keepK (by assumption) (by assumption) | exact keepK (drew_bel _) hG0)
    (first
      | (go_at_call 84; with_reducible refine (HMay.out _ (by first | assumption | exact keepK (by assumption) (by assumption) | exact keepK (drew_bel _) hG0)).mono ?_; rintro e w1 ⟨rfl, hb1⟩)
      | (go_at_call 85; with_reducible refine (HTot.out _ (by first | assumption | exact keepK (by assumption) (by assumption) | exact keepK (drew_bel _) hG0)).mono ?_; rintro e w2 ⟨rfl, hb2⟩))
  rename_i hG1
  have HK1 := hid_of hG1.2.2
  have c6 := hG1.1
  clear hG0 hG1 HMay HTot
  have HKL := hid_of (KL.new w2)
  have HB2 := hid_of (bel2 w2 (.cells #[.int .i64 0, .int .u64 0] 83) (.cells #[.int .i64 0, .int .u64 0] 83))
  clear c6
  go_upto_region 4 with fail
  obtain ⟨w3, hw3⟩ : ∃ w3, (w2.alloc (.cells #[.int .i64 0, .int .u64 0] 83)).alloc (.cells #[.int .i64 0, .int .u64 0] 83) = w3 := ⟨_, rfl⟩
  rw [hw3] at HKL HB2 ⊢
  have c6 := cellB HB2.out HK1.out.box.c6
  clear hw3 HB2
  have HS0 : Hid (lowN P (x.cs.take 0) = 0 ∧ highN P (x.cs.take 0) = 0) := ⟨rfl, rfl⟩
  go_upto_region 5 with fail
  clear c6
  go_loopw [31] (fun v W => ∃ i : Nat, i ≤ x.cs.length ∧ v = .int .i64 (i : Int) ∧ Hid (KL w2 (lowN P (x.cs.take i)) (highN P (x.cs.take i)) W)) (fun v _ => x.cs.length - (intOf v).toNat)
  case atStart => exact ⟨0, by omega, rfl, by rw [HS0.out.1, HS0.out.2]; exact HKL⟩
  case round =>
    clear HKL HS0
    obtain ⟨i, hi, rfl, HL⟩ := hrel
    have hb1 : w.heap.size < w2.heap.size := lt_of_cell HK1.out.box.c0
    have hb2 : w2.heap.size + 1 < wr.heap.size := (Array.getElem?_eq_some_iff.1 HL.out.g2).1
    have hcl := HCl.out
    by_cases hlt : i < x.cs.length
    · have hlt' : (i : Int) < (x.cs.length : Int) := by omega
      obtain ⟨ao, b, o, cap, hv, hao, hrow⟩ := (HK1.out.c.below HL.out.bl).sc
      obtain rfl := hao (by intro e; rw [e] at hlt; simp at hlt)
      cases hv
      obtain ⟨q0, q1⟩ := hrow i hlt
      obtain ⟨g1, g2, _⟩ := H3.out i hlt
      obtain ⟨k1, k2, k3⟩ := in_may HM.out (List.getElem_mem hlt)
      have hN : x.cs[i].2 < 18446744073709551616 := (HW.out _ (List.getElem_mem hlt)).2.2
      have e1 := lowN_take P x.cs i hlt
      have e2 := highN_take P x.cs i hlt
      have bb := low_bound HM.out (i + 1)
      obtain ⟨I, hI⟩ := Int.eq_ofNat_of_zero_le g1
      rw [hI] at k1 k2 k3 q0 e1 e2
      simp only [Int.toNat_natCast] at k1 k2 k3 e1 e2
      rw [e1, e2] at bb
      have HE : Hid (lowN P (x.cs.take (i + 1)) = _ ∧ highN P (x.cs.take (i + 1)) = _) := ⟨e1, e2⟩
      have hp1 : 1 ≤ P := by omega
      have hp2 : P ≤ 14 := by omega
      have HLow : Hid (∀ W, Calls Tryz.prog 86 #[.int .i64 (P : Int), .int .i64 (I : Int)] W fun e w' => (∃ n, w' = W.drewN n) ∧ e = two (lo (2 ^ P) I : Nat) 0) := fun W => low_of (bounds_yes P I hp1 hp2 k1) W
      have HHigh : Hid (∀ W, Calls Tryz.prog 87 #[.int .i64 (P : Int), .int .i64 (I : Int)] W fun e w' => (∃ n, w' = W.drewN n) ∧ e = two (hiV P I : Nat) 0) := fun W => high_of (bounds_yes P I hp1 hp2 k1) W
      have HT1 : Hid (∀ W, _) := times_any (lo (2 ^ P) I) x.cs[i].2 (by omega) hN
      have HT2 : Hid (∀ W, _) := times_any (hiV P I) x.cs[i].2 (by omega) hN
      have HA1 : Hid (∀ W, _) := fun W => addN_any (s := lowN P (x.cs.take i)) (y := lo (2 ^ P) I * x.cs[i].2) (by omega) W
      have HA2 : Hid (∀ W, _) := fun W => addN_any (s := highN P (x.cs.take i)) (y := hiV P I * x.cs[i].2) (by omega) W
      clear e1 e2 bb k1 k2 k3 g1 g2 hI hrow hao hp1 hp2
      generalize lo (2 ^ P) I = lw at *
      generalize hiV P I = hw at *
      generalize x.cs[i].2 = N at *
      generalize lw * N = z1 at *
      generalize hw * N = z2 at *
      generalize lowN P (x.cs.take i) = s1 at *
      generalize highN P (x.cs.take i) = s2 at *
      go_upto_region 9 with (first
        | (go_at_call 86; with_reducible refine (HLow.out _).mono ?_; rintro e w4 ⟨⟨n4, rfl⟩, rfl⟩)
        | (go_at_call 87; with_reducible refine (HHigh.out _).mono ?_; rintro e w5 ⟨⟨n5, rfl⟩, rfl⟩))
      have hbw : Below wr.heap.size wr ((wr.alloc (.cells #[.int .i64 (I : Int), .int .u64 (N : Int)] 174)).drewN (n4 + n5)) := bel_drewNB (bel1 _ _) _
      have hcN : ((wr.alloc (.cells #[.int .i64 (I : Int), .int .u64 (N : Int)] 174)).drewN (n4 + n5)).cell? ⟨wr.heap.size, 1, none⟩ = some (.int .u64 (N : Int)) := cellB (bel_drewNB (Below.refl _ _) _) (new_cell1 wr _ _ _)
      have hL6 := HL.out.below hbw
      generalize (wr.alloc (.cells #[.int .i64 (I : Int), .int .u64 (N : Int)] 174)).drewN (n4 + n5) = w6 at *
      clear HL hbw q0 q1 HLow HHigh
      have hne1 : wr.heap.size ≠ w2.heap.size := by omega
      have hne2 : wr.heap.size ≠ w2.heap.size + 1 := by omega
      generalize hB8 : wr.heap.size = B8 at *
      have hT6 := two_at hL6.g1
      have hS6 := (⟨hT6.1, hT6.2.1, hcN, hT6.2.2.1, hT6.2.2.2, hL6⟩ : S9h w2 w2.heap.size B8 _ _ _ s1 s2 w6)
      clear hT6 hL6 hcN
      go_cut [] from 49 to 54 (fun W => Hid (KL w2 (s1 + z1) s2 W) ∧ W.cell? ⟨B8, 1, none⟩ = some (.int .u64 (N : Int)))
      case first =>
        clear HE HT2 HA2 HK1 HM H3 HT HCl HW
        have hS6d := keepS (drew_bel _) hS6
        obtain ⟨p0, p1, p2, p3, p4, p5⟩ := hS6d
        have HS6 : Hid (S9h w2 w2.heap.size B8 _ _ _ s1 s2 w6.drew) := ⟨p0, p1, p2, p3, p4, p5⟩
        clear hS6 p5
        go_region_with (first
            | (go_at_call 89; with_reducible refine (HT1.out _).mono ?_; rintro e w7 ⟨rfl, hb7⟩; have HS7 := hid_of (keepS hb7 HS6.out); obtain ⟨r0, r1, r2, r3, r4, r5⟩ := HS7.out; clear r5)
            | (go_at_call 88; with_reducible refine (HA1.out _).mono ?_; rintro e w8 ⟨rfl, hb8⟩; have HS8 := hid_of (keepS hb8 HS7.out); obtain ⟨t0, t1, t2, t3, t4, t5⟩ := HS8.out; clear t5))
        all_goals
          go_wp2_with fail
          go_meet
          exact ⟨by have := KL.set1 (t := s1 + z1) HS8.out.2.2.2.2.2; unfold Hid; simpa using this, cell_set2 t2 hne1⟩
      case rest =>
      rename_i wc
      obtain ⟨HLc, hcN⟩ := hcut
      clear hS6 HT1 HA1
      have hT6 := two_at HLc.out.g2
      have hS6 := (⟨hT6.1, hT6.2.1, hcN, hT6.2.2.1, hT6.2.2.2, HLc.out⟩ : S9h w2 (w2.heap.size + 1) B8 _ _ _ (s1 + z1) s2 wc)
      clear hT6 HLc hcN
      go_upto_region 10 with fail
      clear HK1 HM H3 HT HCl HW
      have hS6d := keepS (drew_bel _) hS6
      obtain ⟨p0, p1, p2, p3, p4, p5⟩ := hS6d
      have HS6 : Hid (S9h w2 (w2.heap.size + 1) B8 _ _ _ (s1 + z1) s2 wc.drew) := ⟨p0, p1, p2, p3, p4, p5⟩
      clear hS6 p5
      go_region_with (first
            | (go_at_call 89; with_reducible refine (HT2.out _).mono ?_; rintro e w7 ⟨rfl, hb7⟩; have HS7 := hid_of (keepS hb7 HS6.out); obtain ⟨r0, r1, r2, r3, r4, r5⟩ := HS7.out; clear r5)
            | (go_at_call 88; with_reducible refine (HA2.out _).mono ?_; rintro e w8 ⟨rfl, hb8⟩; have HS8 := hid_of (keepS hb8 HS7.out); obtain ⟨t0, t1, t2, t3, t4, t5⟩ := HS8.out; clear t5))
      all_goals
        go_wp2_with fail
        refine ⟨⟨i + 1, by omega, by go_num, ?_⟩, by simp [intOf]; omega⟩
        rw [HE.out.1, HE.out.2]
        have := KL.set2 (t := s2 + z2) HS8.out.2.2.2.2.2
        unfold Hid
        simpa using this
    · have hlt' : ¬ (i : Int) < (x.cs.length : Int) := by omega
      obtain rfl : i = x.cs.length := by omega
      rw [List.take_length] at HL
      have bb := low_bound HM.out x.cs.length
      rw [List.take_length] at bb
      have HC1 : Hid (∀ W, _) := cmp_le_any (lowN P x.cs : Int) x.t ⟨by omega, by omega⟩ HT.out
      have HC2 : Hid (∀ W, _) := cmp_le_any x.t (highN P x.cs : Int) HT.out ⟨by omega, by omega⟩
      have hK2 := HK1.out.below HL.out.bl
      have eB : btw (P : Int) x = (decide (cmp (lowN P x.cs : Int) x.t ≤ 0) && decide (cmp x.t (highN P x.cs : Int) ≤ 0)) := by
        rw [cmp_le, cmp_le]; rfl
      have HEB := hid_of eB
      clear bb eB HM H3 HT HCl HW HK1
      have d4 := hK2.box.c4
      have d5 := hK2.box.c5
      obtain ⟨l0, l1, _, _⟩ := two_at HL.out.g1
      obtain ⟨m0, m1, _, _⟩ := two_at HL.out.g2
      have HK2 := hid_of hK2
      clear hK2 HL
      generalize (lowN P x.cs : Int) = A at *
      generalize (highN P x.cs : Int) = B at *
      generalize cmp A x.t = c1 at *
      generalize cmp x.t B = c2 at *
      by_cases hc1 : c1 ≤ 0
      · rw [decide_eq_true hc1, Bool.true_and] at HEB
        by_cases hc2 : c2 ≤ 0
        · rw [decide_eq_true hc2] at HEB
          as_aux_lemma =>
            go_wp2_with (go_at_call 82; (first | (with_reducible refine (HC1.out _).mono ?_) | (with_reducible refine (HC2.out _).mono ?_)); rintro e w7 ⟨rfl, hb7⟩; have d4 := cellB hb7 d4; have d5 := cellB hb7 d5; have m0 := cellB hb7 m0; have m1 := cellB hb7 m1; have HK2 := hid_of (HK2.out.below hb7))
            go_ret
            exact ⟨retB HEB.out.symm, HK2.out.bl⟩
        · rw [decide_eq_false hc2] at HEB
          as_aux_lemma =>
            go_wp2_with (go_at_call 82; (first | (with_reducible refine (HC1.out _).mono ?_) | (with_reducible refine (HC2.out _).mono ?_)); rintro e w7 ⟨rfl, hb7⟩; have d4 := cellB hb7 d4; have d5 := cellB hb7 d5; have m0 := cellB hb7 m0; have m1 := cellB hb7 m1; have HK2 := hid_of (HK2.out.below hb7))
            go_ret
            exact ⟨retB (by rw [decide_eq_false (by omega)]; exact HEB.out.symm), HK2.out.bl⟩
      · rw [decide_eq_false hc1, Bool.false_and] at HEB
        as_aux_lemma =>
          go_wp2_with (go_at_call 82; with_reducible refine (HC1.out _).mono ?_; rintro e w7 ⟨rfl, hb7⟩; have HK2 := hid_of (HK2.out.below hb7))
          go_ret
          exact ⟨retB HEB.out.symm, HK2.out.bl⟩
end Go.Proofs.YtlgkfeeclgcgbaaGreatDoor
