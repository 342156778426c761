/- COPIES: copied. Own work of the verifier. -/
import Derived.Test.YtlgkfeeclgcgbaaGreatDoorZBC
import Derived.Test.YtlgkfeeclgcgbaaGreatDoorZAL
import Derived.Test.YtlgkfeeclgcgbaaGreatDoorRows
import Derived.WalkKit
import Derived.WalkSpells
import Derived.RowKit3
import Derived.Below
import Derived.Laws.Externs
import Derived.Outline
import Derived.Deep.QuietTactic
import Derived.Deep.Draws
import Derived.BigQuiet
import Derived.Laws.Bits64
import Derived.Laws.BitsAllLaws
import Derived.Laws.ComplexArith
import Derived.Deep.DeepCutAuto
import Derived.Deep.RegionHeld3
import Derived.Laws.FloatArith
set_option maxRecDepth 100000
set_option maxHeartbeats 4000000
namespace Go.Proofs.YtlgkfeeclgcgbaaGreatDoor
open Go.RowKit Me
theorem set3_heap {W:World} {b:Nat} {x:Vl} {lv cv u:Value} {t:TypeId} (h:W.heap[b]? =some (.cells (vc x lv cv) t (0,0))):(W.setCell ⟨b,3,none⟩ u).heap[b]? =some (.cells (vc x u cv) t (0,0)):=by
 rw [heap_setCell_same _ b 3 _ _ _ h];rfl
theorem set6_heap {W:World} {b:Nat} {x:Vl} {lv cv u:Value} {t:TypeId} (h:W.heap[b]? =some (.cells (vc x lv cv) t (0,0))):(W.setCell ⟨b,6,none⟩ u).heap[b]? =some (.cells (vc x lv u) t (0,0)):=by
 rw [heap_setCell_same _ b 6 _ _ _ h];rfl
def CpQ (w:World) (x:Vl) (e:Ending) (w':World):Prop:=∃ lv cv,e=.returned (vx x lv cv)∧OwnL w.heap.size lv x.d.labels w'∧OwnC w.heap.size cv x.cs w'∧Below w.heap.size w w'
theorem own_ne {W:World} {B b:Nat} {e:TypeId} {s n:Nat} {v:Value} {xs:List Value} (h:W.ownsRow B e s v n xs) (hb:b < B):v.ownBlock≠some b:=by
 rcases own_atG h with k | ⟨g,k,k1,_⟩
 ·rw [k];simp
 ·rw [k];intro q;cases q;omega
structure Cp1 (w:World) (x:Vl) (lv cv:Value) (W:World):Prop where
 g1:W.heap[w.heap.size]? =some (.cells (vc x lv cv) 86 (0,0))
 g2:W.heap[w.heap.size+1]? =some (.cells zc 86 (0,0))
 bl:Below w.heap.size w W
theorem Cp1.below {w W W1:World} {x:Vl} {lv cv:Value} (h:Cp1 w x lv cv W) (hb:Below W.heap.size W W1):Cp1 w x lv cv W1:=⟨hkN h.g1 hb,hkN h.g2 hb,bt h.bl hb⟩
theorem Cp1.set3 {w W:World} {x:Vl} {lv cv u:Value} (h:Cp1 w x lv cv W):Cp1 w x u cv (W.setCell ⟨w.heap.size,3,none⟩ u):=⟨set3_heap h.g1,by rw [heap_other _ _ _ _ (by simp)];exact h.g2,h.bl.setCell (p:=⟨w.heap.size,3,none⟩) (Nat.le_refl _) u⟩
theorem Cp1.set6 {w W:World} {x:Vl} {lv cv u:Value} (h:Cp1 w x lv cv W):Cp1 w x lv u (W.setCell ⟨w.heap.size,6,none⟩ u):=⟨set6_heap h.g1,by rw [heap_other _ _ _ _ (by simp)];exact h.g2,h.bl.setCell (p:=⟨w.heap.size,6,none⟩) (Nat.le_refl _) u⟩
theorem Cp1.new (w:World) (x:Vl) (lv cv:Value):Cp1 w x lv cv ((w.alloc (.cells (vc x lv cv) 86)).alloc (.cells zc 86)):=by
 refine ⟨hkN (new_1 w _) (bel1 _ _),?_,bel2 w _ _⟩
 have:=new_1 (w.alloc (.cells (vc x lv cv) 86)) (.cells zc 86)
 rw [show (w.alloc (.cells (vc x lv cv) 86)).heap.size=w.heap.size+1 by simp] at this
 exact this
theorem copied_any (x:Vl) (v:Value) (w:World) (hv:VAt w x v) (hl1:x.d.labels.length≤1048576) (hl2:x.cs.length≤1048576) :
  Calls Tryz.prog 290 #[v] w fun e w'=>CpQ w x e w':=by
 obtain ⟨lv,cv,rfl,hl,hc⟩:=hv
 obtain ⟨la,lc,rfl⟩:=hl.form
 obtain ⟨ca,cc,rfl⟩:=hc.form
 have HN:Hid (Cp1 w x (.slice la x.d.labels.length lc) (.slice ca x.cs.length cc) ((w.alloc (.cells (vc x (.slice la x.d.labels.length lc) (.slice ca x.cs.length cc)) 86)).alloc (.cells zc 86))):=Cp1.new _ _ _ _
 have HL:=hid_of hl
 have HC:=hid_of hc
 clear hl hc
 go_enter Tryz.func290,Tryz.ntmps290
 go_upto_region 1 with fail
 obtain ⟨w2,hw2⟩:∃ w2,(w.alloc (.cells (vc x (.slice la x.d.labels.length lc) (.slice ca x.cs.length cc)) 86)).alloc (.cells zc 86)=w2:=⟨_,rfl⟩
 have hs2:Hid (w2.heap.size=w.heap.size+2):=by rw [← hw2];unfold Hid;simp
 rw [hw2] at HN
 simp only [vc,zc] at hw2
 rw [hw2]
 clear hw2
 go_cut [] from 3 to 8 (fun W=>∃ lv',Hid (Cp1 w x lv' (.slice ca x.cs.length cc) W)∧Hid (OwnL (w.heap.size+2) lv' x.d.labels W))
 case first =>
  obtain ⟨c0,c1,c2,c3,c4,c5,c6,c7,c8,c9,c10⟩:=eleven_cells (hid_of HN.out.g1)
  have HR:=hid_of (fun ty=>run_copyL (HL.out.below HN.out.bl) hl1 ty)
  go_wp2_with (first
   | (at_builtin;refine wpList_run _ rfl _ _ 58 rfl _ _ rfl rfl (HR.out _) ?_;intro v5 w5 hG5;obtain ⟨a5,b5,n5,rfl,-⟩:=own_slice hG5.1;have hC5:=HN.out.below hG5.2;obtain ⟨d0,d1,d2,d3,d4,d5,d6,d7,d8,d9,d10⟩:=eleven_cells (hid_of hC5.g1);have hf3:=hid_fr (hid_of hC5.g1) 3))
  go_meet
  refine ⟨_,hC5.set3,?_⟩
  rw [← hs2.out]
  exact own_set hG5.1 (own_ne hG5.1 (by have:=hs2.out;show w.heap.size < _;omega)) _
 case rest =>
 obtain ⟨lv',HC1,HO1⟩:=hcut
 clear HN
 go_upto_region 2 with fail
 go_cut [] from 9 to 12 (fun W=>∃ cv',Hid (Cp1 w x lv' cv' W)∧Hid (OwnL (w.heap.size+2) lv' x.d.labels W)∧Hid (OwnC (w.heap.size+2) cv' x.cs W))
 case first =>
  obtain ⟨c0,c1,c2,c3,c4,c5,c6,c7,c8,c9,c10⟩:=eleven_cells (hid_of HC1.out.g1)
  have HR:=hid_of (fun ty=>run_copyC (HC.out.below HC1.out.bl) hl2 ty)
  have hsz:=HC1.out.g2
  have hsz2:=(Array.getElem?_eq_some_iff.1 hsz).1
  clear hsz
  go_wp2_with (first
   | (at_builtin;refine wpList_run _ rfl _ _ 84 rfl _ _ rfl rfl (HR.out _) ?_;intro v5 w5 hG5;obtain ⟨a5,b5,n5,rfl,-⟩:=own_slice hG5.1;have hC5:=HC1.out.below hG5.2;obtain ⟨d0,d1,d2,d3,d4,d5,d6,d7,d8,d9,d10⟩:=eleven_cells (hid_of hC5.g1);have hf6:=hid_fr (hid_of hC5.g1) 6))
  go_meet
  refine ⟨_,hC5.set6,?_,?_⟩
  ·have h1:=own_belG HO1.out hG5.2
   exact own_set h1 (own_ne h1 (by show w.heap.size < _;omega)) _
  ·exact own_leG (own_set hG5.1 (own_ne hG5.1 (by show w.heap.size < _;omega)) _) (by omega)
 case rest =>
 obtain ⟨cv',HC2,HO2,HO3⟩:=hcut
 obtain ⟨a8,b8,n8,rfl,-⟩:=own_slice HO2.out
 obtain ⟨a9,b9,n9,rfl,-⟩:=own_slice HO3.out
 clear HC1 HO1
 obtain ⟨c0,c1,c2,c3,c4,c5,c6,c7,c8,c9,c10⟩:=eleven_cells (hid_of HC2.out.g1)
 obtain ⟨z0,z1,z2,z3,z4,z5,z6,z7,z8,z9,z10⟩:=eleven_cells (hid_of HC2.out.g2)
 obtain ⟨f0,f1,f2,f3,f4,f5,f6,f7,f8,f9,f10⟩:=eleven_fr (hid_of HC2.out.g2)
 have sF:=store_f
 go_wp2_with fail
 rw [put11_eq]
 have HS:=hid_of (set_eleven (v0:=.int .i64 x.d.kind) (v1:=.string ⟨x.d.name.toArray⟩) (v2:=.string ⟨x.d.help.toArray⟩) (v3:=.slice a8 x.d.labels.length n8) (v4:=.int .i64 (hiOf x.t)) (v5:=.int .u64 (loOf x.t)) (v6:=.slice a9 x.cs.length n9) (v7:=.int .u64 (x.n:Int)) (v8:=.float .f64 x.sum) (v9:=.float .f64 x.mn) (v10:=.float .f64 x.mx) HC2.out.g2)
 obtain ⟨y0,y1,y2,y3,y4,y5,y6,y7,y8,y9,y10⟩:=eleven_cells HS
 simp [bodyPost,results,go_sem,y0,y1,y2,y3,y4,y5,y6,y7,y8,y9,y10]
 exact ⟨_,_,rfl,own_leG (own_put11 HO2.out (own_ne HO2.out (by omega)) _ _ _ _ _ _ _ _ _ _ _) (by omega),own_leG (own_put11 HO3.out (own_ne HO3.out (by omega)) _ _ _ _ _ _ _ _ _ _ _) (by omega),put11_bel HC2.out.bl (by omega) _ _ _ _ _ _ _ _ _ _ _⟩
end Go.Proofs.YtlgkfeeclgcgbaaGreatDoor
/- TWO VALUES OF ONE SERIES: what comes of them. Own work of the verifier. -/
namespace Go.Proofs.YtlgkfeeclgcgbaaGreatDoor
open Go.RowKit Me
noncomputable def mrgC (A C:List Cn):List Cn:=Classical.epsilon (fun O=>IsMerge O (A++C))
theorem mrgC_eq {O A C:List Cn} (h:IsMerge O (A++C)):mrgC A C=O:=(Classical.epsilon_spec (p:=fun O=>IsMerge O (A++C)) ⟨O,h⟩).uniq h
def zV:Vl:=⟨⟨0,[],[],[]⟩,0,[],0,0,0,0⟩
def jF (x y:Vl):Nat × Nat × Nat:=if x.n=0 then (y.sum,y.mn,y.mx) else if 0 < y.n then (Soft.fa x.sum y.sum,Re.outF x.mn y.mn (-1),Re.outF x.mx y.mx 1) else (x.sum,x.mn,x.mx)
noncomputable def jV (x y:Vl):Vl:=⟨x.d,rnd (x.t+y.t),mrgC x.cs y.cs,(x.n+y.n) % 18446744073709551616,(jF x y).1,(jF x y).2.1,(jF x y).2.2⟩
noncomputable def joinV (x y:Vl):Vl × Int :=
 if rnd (x.t+y.t) < 0∨9223372036854775807 < (x.n+y.n) % 18446744073709551616 then (zV,3)
 else if Re.finF (jF x y).1=false then (zV,2) else (jV x y,0)
theorem fin_add {x y:Nat} (hx:x < 18446744073709551616) (hy:y < 18446744073709551616) (fx:Re.finF x=true) (fy:Re.finF y=true):Ieee.double.add x y=some (Soft.fa x y):=by
 obtain ⟨s,a,rfl,ha⟩:=sw_of x hx
 obtain ⟨t,b,rfl,hb⟩:=sw_of y hy
 have e1:a < 9218868437227405312:=by
  have:=of_decide_eq_true fx
  unfold sw at this
  cases s <;> simp at this <;> omega
 have e2:b < 9218868437227405312:=by
  have:=of_decide_eq_true fy
  unfold sw at this
  cases t <;> simp at this <;> omega
 have:=Soft.add_fin s t a b e1 e2
 unfold Soft.fa
 rw [this]
 rfl
theorem run_add {x y:Nat} (hx:x < 18446744073709551616) (hy:y < 18446744073709551616) (fx:Re.finF x=true) (fy:Re.finF y=true) (W:World) (t:TypeId):(binOp .add t (.float .f64 x) (.float .f64 y)).run Tryz.prog W=.ok (.float .f64 (Soft.fa x y)) W:=run_float_arith W .add t .f64 x y _ (fin_add hx hy fx fy)
structure Jt (w:World) (x y:Vl) (lv cv lw cw:Value) (c4:Array Value) (W:World):Prop where
 g1:W.heap[w.heap.size]? =some (.cells (vc x lv cv) 86 (0,0))
 g2:W.heap[w.heap.size+1]? =some (.cells (vc y lw cw) 86 (0,0))
 g3:W.heap[w.heap.size+1+1]? =some (.cells zc 86 (0,0))
 g4:W.heap[w.heap.size+1+1+1]? =some (.cells c4 86 (0,0))
 bl:Below w.heap.size w W
theorem Jt.below {w W W1:World} {x y:Vl} {lv cv lw cw:Value} {c4:Array Value} (h:Jt w x y lv cv lw cw c4 W) (hb:Below W.heap.size W W1):Jt w x y lv cv lw cw c4 W1:=⟨hkN h.g1 hb,hkN h.g2 hb,hkN h.g3 hb,hkN h.g4 hb,bt h.bl hb⟩
theorem Jt.set {w W:World} {x y:Vl} {lv cv lw cw:Value} {c4 c5:Array Value} (h:Jt w x y lv cv lw cw c4 W) (j:Nat) (u:Value) (he:c4.set! j u=c5):Jt w x y lv cv lw cw c5 (W.setCell ⟨w.heap.size+1+1+1,j,none⟩ u):=by
 refine ⟨?_,?_,?_,?_,h.bl.setCell (p:=⟨w.heap.size+1+1+1,j,none⟩) (by show w.heap.size≤w.heap.size+1+1+1;omega) u⟩
 ·rw [heap_other _ _ _ _ (by simp;omega)];exact h.g1
 ·rw [heap_other _ _ _ _ (by simp)];exact h.g2
 ·rw [heap_other _ _ _ _ (by simp)];exact h.g3
 ·rw [heap_setCell_same _ _ j _ _ _ h.g4,← he]
  simp
theorem Jt.new (w:World) (x y:Vl) (lv cv lw cw:Value):Jt w x y lv cv lw cw (vc x lv cv) ((((w.alloc (.cells (vc x lv cv) 86)).alloc (.cells (vc y lw cw) 86)).alloc (.cells zc 86)).alloc (.cells (vc x lv cv) 86)):=by
 have e1:(w.alloc (.cells (vc x lv cv) 86)).heap.size=w.heap.size+1:=by simp
 have e2:((w.alloc (.cells (vc x lv cv) 86)).alloc (.cells (vc y lw cw) 86)).heap.size=w.heap.size+1+1:=by simp
 have e3:(((w.alloc (.cells (vc x lv cv) 86)).alloc (.cells (vc y lw cw) 86)).alloc (.cells zc 86)).heap.size=w.heap.size+1+1+1:=by simp
 have n1:=new_1 w (.cells (vc x lv cv) 86)
 have n2:=new_1 (w.alloc (.cells (vc x lv cv) 86)) (.cells (vc y lw cw) 86)
 have n3:=new_1 ((w.alloc (.cells (vc x lv cv) 86)).alloc (.cells (vc y lw cw) 86)) (.cells zc 86)
 have n4:=new_1 (((w.alloc (.cells (vc x lv cv) 86)).alloc (.cells (vc y lw cw) 86)).alloc (.cells zc 86)) (.cells (vc x lv cv) 86)
 rw [e1] at n2
 rw [e2] at n3
 rw [e3] at n4
 exact ⟨hkN (hkN (hkN n1 (bel1 _ _)) (bel1 _ _)) (bel1 _ _),hkN (hkN n2 (bel1 _ _)) (bel1 _ _),hkN n3 (bel1 _ _),n4,bt (bt (bt (bel1 _ _) (bel1 _ _)) (bel1 _ _)) (bel1 _ _)⟩
def JnQ (w:World) (x y:Vl) (lv:Value) (e:Ending) (w':World):Prop:=∃ a1 n1 c1 a2 n2 c2,e=.returned (.tuple #[vx (joinV x y).1 (.slice a1 n1 c1) (.slice a2 n2 c2),.int .i64 (joinV x y).2])∧((joinV x y).2=0→.slice a1 n1 c1=lv∧OwnC w.heap.size (.slice a2 n2 c2) (joinV x y).1.cs w')∧Below w.heap.size w w'
end Go.Proofs.YtlgkfeeclgcgbaaGreatDoor
/- TWO VALUES OF ONE SERIES: the walk. Own work of the verifier. -/
set_option maxRecDepth 100000
set_option maxHeartbeats 8000000
namespace Go.Proofs.YtlgkfeeclgcgbaaGreatDoor
open Go.RowKit Me
theorem wrap_n (x y:Nat):IntKind.u64.wrap ((x:Int)+(y:Int))=(((x+y) % 18446744073709551616:Nat):Int):=by rw [IntKind.wrap_u64];omega
theorem vx_zero:vx zV (.slice none 0 0) (.slice none 0 0)=.agg zc:=by simp [vx,zV,zc,hiOf,loOf]
theorem jn_err {w W:World} {x y:Vl} {lv:Value} {e:Int} (he:e≠0) (hj:joinV x y=(zV,e)) (hb:Below w.heap.size w W):JnQ w x y lv (.returned (.tuple #[.agg zc,.int .i64 e])) W:=⟨none,0,0,none,0,0,by rw [hj,vx_zero],fun k=>absurd (by rw [hj] at k;exact k) he,hb⟩
theorem joinTwo_any (x y:Vl) (v u:Value) (hx:VW x) (hy:VW y) (w:World) (la:Option Addr) (lc:Nat) (cv:Value) (hv:v=vx x (.slice la x.d.labels.length lc) cv) (hC:SN w cv x.cs) (hu:VAt w y u) (sx:x.cs.length≤1048576) (sy:y.cs.length≤1048576) (fx:Re.finF x.sum=true) (fy:Re.finF y.sum=true) :
  Calls Tryz.prog 309 #[v,u] w fun e w'=>JnQ w x y (.slice la x.d.labels.length lc) e w':=by
 subst hv
 obtain ⟨lw,cw,rfl,hl',hc'⟩:=hu
 obtain ⟨la',lc',rfl⟩:=hl'.form
 obtain ⟨ca,cc,rfl⟩:=hC.form
 obtain ⟨ca',cc',rfl⟩:=hc'.form
 have HAd:Hid (∀ W,Calls Tryz.prog 88 #[.agg #[.int .i64 (hiOf x.t),.int .u64 (loOf x.t)],.agg #[.int .i64 (hiOf y.t),.int .u64 (loOf y.t)]] W fun e w'=>e=.returned (.agg #[.int .i64 (hiOf (rnd (x.t+y.t))),.int .u64 (loOf (rnd (x.t+y.t)))])∧Below W.heap.size W w'):=fun W=>by
  have:=add_any _ _ _ _ (wf_of hx.t) (wf_of hy.t) W
  rw [val_hl,val_hl] at this
  exact this
 have HSg:Hid (∀ W,_):=sign_any (rnd (x.t+y.t)) (inR_rnd _)
 have HMg:Hid (∀ W,Below w.heap.size w W→Calls Tryz.prog 316 #[.slice ca x.cs.length cc,.slice ca' y.cs.length cc'] W fun e w'=>Md W (x.cs++y.cs) e w'):=fun W hb=>cmerge_any W _ _ x.cs y.cs (hC.below hb) (hc'.below hb) (fun c hc=>by rcases List.mem_append.1 hc with h | h;exact hx.cs c h;exact hy.cs c h) sx sy
 have HN:Hid (Jt w x y (.slice la x.d.labels.length lc) (.slice ca x.cs.length cc) (.slice la' y.d.labels.length lc') (.slice ca' y.cs.length cc') (vc x (.slice la x.d.labels.length lc) (.slice ca x.cs.length cc)) _):=Jt.new w x y _ _ _ _
 have HX:=hid_of hx
 have HY:=hid_of hy
 have HFx:=hid_of fx
 have HFy:=hid_of fy
 clear hC hl' hc' hx hy fx fy
 obtain ⟨T,hT⟩:∃ T,rnd (x.t+y.t)=T:=⟨_,rfl⟩
 obtain ⟨N,hN⟩:∃ N,(x.n+y.n) % 18446744073709551616=N:=⟨_,rfl⟩
 have hwN:=wrap_n x.n y.n
 have HNl:Hid (N < 18446744073709551616):=by unfold Hid;omega
 rw [hT] at HAd HSg
 rw [hN] at hwN
 have HTN:=hid_of (⟨hT,hN⟩:_∧_)
 clear hT hN
 have sF:=store_f
 go_enter Tryz.func309,Tryz.ntmps309
 go_upto_region 2 with fail
 obtain ⟨w2,hw2⟩:∃ w2,((((w.alloc (.cells (vc x (.slice la x.d.labels.length lc) (.slice ca x.cs.length cc)) 86)).alloc (.cells (vc y (.slice la' y.d.labels.length lc') (.slice ca' y.cs.length cc')) 86)).alloc (.cells zc 86)).alloc (.cells (vc x (.slice la x.d.labels.length lc) (.slice ca x.cs.length cc)) 86))=w2:=⟨_,rfl⟩
 rw [hw2] at HN
 simp only [vc,zc] at hw2
 rw [hw2]
 clear hw2
 go_cut [] from 8 to 13 (fun W=>Hid (Jt w x y (.slice la x.d.labels.length lc) (.slice ca x.cs.length cc) (.slice la' y.d.labels.length lc') (.slice ca' y.cs.length cc') (vc { x with t:=T } (.slice la x.d.labels.length lc) (.slice ca x.cs.length cc)) W))
 case first =>
  clear HSg HMg HX HY HFx HFy HTN
  as_aux_lemma =>
   obtain ⟨c0,c1,c2,c3,c4,c5,c6,c7,c8,c9,c10⟩:=eleven_cells (hid_of HN.out.g1)
   obtain ⟨d0,d1,d2,d3,d4,d5,d6,d7,d8,d9,d10⟩:=eleven_cells (hid_of HN.out.g2)
   go_wp2_with (go_at_call 88;with_reducible refine (HAd.out _).mono ?_;rintro e w5 ⟨rfl,hb5⟩;have hJ5:=HN.out.below hb5;obtain ⟨e0,e1,e2,e3,e4,e5,e6,e7,e8,e9,e10⟩:=eleven_cells (hid_of hJ5.g4);have f4:=hid_fr (hid_of hJ5.g4) 4;have f5:=hid_fr (hid_of hJ5.g4) 5)
   go_meet
   exact (hJ5.set 4 (.int .i64 (hiOf T)) rfl).set 5 (.int .u64 (loOf T)) rfl
 case rest =>
 have HJ:=hcut
 clear HN HAd hcut
 obtain ⟨w3,hw3⟩:∃ w3,w3=wc:=⟨_,rfl⟩
 subst hw3
 go_upto_region 3 with fail
 go_cut [] from 14 to 19 (fun W=>Hid (Jt w x y (.slice la x.d.labels.length lc) (.slice ca x.cs.length cc) (.slice la' y.d.labels.length lc') (.slice ca' y.cs.length cc') (vc { x with t:=T,n:=N } (.slice la x.d.labels.length lc) (.slice ca x.cs.length cc)) W))
 case first =>
  clear HSg HMg HX HY HFx HFy HTN
  as_aux_lemma =>
   obtain ⟨c0,c1,c2,c3,c4,c5,c6,c7,c8,c9,c10⟩:=eleven_cells (hid_of HJ.out.g1)
   obtain ⟨d0,d1,d2,d3,d4,d5,d6,d7,d8,d9,d10⟩:=eleven_cells (hid_of HJ.out.g2)
   obtain ⟨e0,e1,e2,e3,e4,e5,e6,e7,e8,e9,e10⟩:=eleven_cells (hid_of HJ.out.g4)
   have f7:=hid_fr (hid_of HJ.out.g4) 7
   go_wp2_with fail
   go_meet
   exact HJ.out.set 7 (.int .u64 (N:Int)) rfl
 case rest =>
 have HJ2:=hcut
 clear HJ hcut hwN
 obtain ⟨w4,hw4⟩:∃ w4,w4=wc:=⟨_,rfl⟩
 subst hw4
 go_upto_region 4 with fail
 obtain ⟨Tn,hTn⟩:∃ b,decide (cmp T 0 < 0)=b:=⟨_,rfl⟩
 obtain ⟨Nn,hNn⟩:∃ b,decide ((9223372036854775807:Int) < (N:Int))=b:=⟨_,rfl⟩
 have HE0:Hid (cmp T 0 < 0 ↔ T < 0):=by
  unfold Hid cmp
  split
  ·omega
  ·split <;> omega
 generalize hct:cmp T 0=ct at *
 clear hct
 by_cases hT0:ct < 0
 ·have HR:Hid (joinV x y=(zV,3)):=by
   unfold Hid joinV
   rw [if_pos (Or.inl (by rw [HTN.out.1];exact HE0.out.1 hT0))]
  clear HMg HX HY HFx HFy HTN HE0 hTn hNn
  obtain ⟨e0,e1,e2,e3,e4,e5,e6,e7,e8,e9,e10⟩:=eleven_cells (hid_of HJ2.out.g4)
  go_wp2_with (go_at_call 65;with_reducible refine (HSg.out _).mono ?_;rintro e w5 ⟨rfl,hb5⟩;have hJ5:=HJ2.out.below hb5;obtain ⟨q0,q1,q2,q3,q4,q5,q6,q7,q8,q9,q10⟩:=eleven_cells (hid_of hJ5.g4);obtain ⟨z0,z1,z2,z3,z4,z5,z6,z7,z8,z9,z10⟩:=eleven_cells (hid_of hJ5.g3);obtain ⟨f0,f1,f2,f3,f4,f5,f6,f7,f8,f9,f10⟩:=eleven_fr (hid_of hJ5.g3))
  rw [put11_eq]
  have HS:=hid_of (set_eleven (v0:=.int .i64 0) (v1:=.string ⟨#[]⟩) (v2:=.string ⟨#[]⟩) (v3:=.slice none 0 0) (v4:=.int .i64 0) (v5:=.int .u64 0) (v6:=.slice none 0 0) (v7:=.int .u64 0) (v8:=.float .f64 0) (v9:=.float .f64 0) (v10:=.float .f64 0) hJ5.g3)
  obtain ⟨y0,y1,y2,y3,y4,y5,y6,y7,y8,y9,y10⟩:=eleven_cells HS
  simp [bodyPost,results,go_sem,y0,y1,y2,y3,y4,y5,y6,y7,y8,y9,y10]
  exact jn_err (by decide) HR.out (put11_bel hJ5.bl (by omega) _ _ _ _ _ _ _ _ _ _ _)
 ·by_cases hN0:(9223372036854775807:Int) < (N:Int)
  ·have HR:Hid (joinV x y=(zV,3)):=by
    unfold Hid joinV
    rw [if_pos (Or.inr (by rw [HTN.out.2];omega))]
   clear HMg HX HY HFx HFy HTN HE0 hTn hNn
   obtain ⟨e0,e1,e2,e3,e4,e5,e6,e7,e8,e9,e10⟩:=eleven_cells (hid_of HJ2.out.g4)
   go_wp2_with (go_at_call 65;with_reducible refine (HSg.out _).mono ?_;rintro e w5 ⟨rfl,hb5⟩;have hJ5:=HJ2.out.below hb5;obtain ⟨q0,q1,q2,q3,q4,q5,q6,q7,q8,q9,q10⟩:=eleven_cells (hid_of hJ5.g4);obtain ⟨z0,z1,z2,z3,z4,z5,z6,z7,z8,z9,z10⟩:=eleven_cells (hid_of hJ5.g3);obtain ⟨f0,f1,f2,f3,f4,f5,f6,f7,f8,f9,f10⟩:=eleven_fr (hid_of hJ5.g3))
   rw [put11_eq]
   have HS:=hid_of (set_eleven (v0:=.int .i64 0) (v1:=.string ⟨#[]⟩) (v2:=.string ⟨#[]⟩) (v3:=.slice none 0 0) (v4:=.int .i64 0) (v5:=.int .u64 0) (v6:=.slice none 0 0) (v7:=.int .u64 0) (v8:=.float .f64 0) (v9:=.float .f64 0) (v10:=.float .f64 0) hJ5.g3)
   obtain ⟨y0,y1,y2,y3,y4,y5,y6,y7,y8,y9,y10⟩:=eleven_cells HS
   simp [bodyPost,results,go_sem,y0,y1,y2,y3,y4,y5,y6,y7,y8,y9,y10]
   exact jn_err (by decide) HR.out (put11_bel hJ5.bl (by omega) _ _ _ _ _ _ _ _ _ _ _)
  ·have HR:Hid (joinV x y=if Re.finF (jF x y).1=false then (zV,2) else (jV x y,0)):=by
    unfold Hid joinV
    rw [if_neg (by rw [HTN.out.1,HTN.out.2];rintro (k | k);exact hT0 (HE0.out.2 k);omega)]
   clear HE0 hTn hNn
   obtain ⟨e0,e1,e2,e3,e4,e5,e6,e7,e8,e9,e10⟩:=eleven_cells (hid_of HJ2.out.g4)
   go_upto_region 6 with (go_at_call 65;with_reducible refine (HSg.out _).mono ?_;rintro e w5 ⟨rfl,hb5⟩;have HJ5:=hid_of (HJ2.out.below hb5);obtain ⟨q0,q1,q2,q3,q4,q5,q6,q7,q8,q9,q10⟩:=eleven_cells (hid_of HJ5.out.g4))
   clear e0 e1 e2 e3 e4 e5 e6 e7 e8 e9 e10 q0 q1 q2 q3 q4 q5 q6 q7 q8 q9 q10 HJ2 hb5 HSg
   go_cut [] from 30 to 35 (fun W=>∃ ao n cap O,Hid (IsMerge O (x.cs++y.cs))∧Hid (OwnC (w.heap.size+4) (.slice ao n cap) O W)∧Hid (Jt w x y (.slice la x.d.labels.length lc) (.slice ca x.cs.length cc) (.slice la' y.d.labels.length lc') (.slice ca' y.cs.length cc') (vc { x with t:=T,n:=N } (.slice la x.d.labels.length lc) (.slice ao n cap)) W))
   case first =>
    obtain ⟨c0,c1,c2,c3,c4,c5,c6,c7,c8,c9,c10⟩:=eleven_cells (hid_of HJ5.out.g1)
    obtain ⟨d0,d1,d2,d3,d4,d5,d6,d7,d8,d9,d10⟩:=eleven_cells (hid_of HJ5.out.g2)
    have hs5:w.heap.size+4≤w5.heap.size:=(Array.getElem?_eq_some_iff.1 HJ5.out.g4).1
    go_wp2_with (go_at_call 316;(refine (HMg.out _ HJ5.out.bl).mono ?_;rintro e w6 ⟨v6,O,rfl,hO,hG6⟩;obtain ⟨a6,b6,n6,rfl,-⟩:=own_slice hG6.own;have hJ6:=HJ5.out.below hG6.below;obtain ⟨q0,q1,q2,q3,q4,q5,q6,q7,q8,q9,q10⟩:=eleven_cells (hid_of hJ6.g4);have f6:=hid_fr (hid_of hJ6.g4) 6))
    go_meet
    refine ⟨a6,_,n6,O,hO,?_,hJ6.set 6 _ rfl⟩
    have h1:OwnC (w.heap.size+4) (.slice a6 O.length n6) O w6:=own_leG hG6.own hs5
    exact own_set h1 (own_ne h1 (by show w.heap.size+1+1+1 < _;omega)) _
   case rest =>
   obtain ⟨a6,n6,c6,O,HO,HOw,HJ6⟩:=hcut
   clear HJ5 HMg
   obtain ⟨w7,hw7⟩:∃ w7,w7=wc:=⟨_,rfl⟩
   subst hw7
   by_cases hx0:x.n=0
   ·have HFe:Hid (jF x y=(y.sum,y.mn,y.mx)):=by
     unfold Hid jF
     rw [if_pos hx0]
    have hx0':((x.n:Int) == 0)=true:=by rw [beq_iff_eq];omega
    clear hx0
    obtain ⟨c0,c1,c2,c3,c4,c5,c6',c7,c8,c9,c10⟩:=eleven_cells (hid_of HJ6.out.g1)
    go_upto_region 8 with fail
    clear c0 c1 c2 c3 c4 c5 c6' c7 c8 c9 c10
    have hJd:=HJ6.out
    obtain ⟨d0,d1,d2,d3,d4,d5,d6,d7,d8,d9,d10⟩:=eleven_cells (hid_of hJd.g2)
    obtain ⟨q0,q1,q2,q3,q4,q5,q6,q7,q8,q9,q10⟩:=eleven_cells (hid_of hJd.g4)
    have f8:=hid_fr (hid_of hJd.g4) 8
    have f9:=hid_fr (hid_of hJd.g4) 9
    have f10:=hid_fr (hid_of hJd.g4) 10
    clear hJd d0 d1 d2 d3 d4 d5 d6 d7 q0 q1 q2 q3 q4 q5 q6 q7
    go_region
    clear d8 d9 d10 q8 q9 q10 f8 f9 f10
    have HJ8:=hid_of ((((HJ6.out.set 8 (.float .f64 y.sum) rfl).set 9 (.float .f64 y.mn) rfl).set 10 (.float .f64 y.mx) rfl).below (drew_bel _))
    have hne:=own_ne HOw.out (show w.heap.size+1+1+1 < w.heap.size+4 by omega)
    have HOw8:=hid_of (own_belG (own_set (own_set (own_set HOw.out (a:=⟨w.heap.size+1+1+1,8,none⟩) hne (.float .f64 y.sum)) (a:=⟨w.heap.size+1+1+1,9,none⟩) hne (.float .f64 y.mn)) (a:=⟨w.heap.size+1+1+1,10,none⟩) hne (.float .f64 y.mx)) (drew_bel _))
    clear HJ6 HOw hne
    generalize (((w7.setCell ⟨w.heap.size+1+1+1,8,none⟩ (.float .f64 y.sum)).setCell ⟨w.heap.size+1+1+1,9,none⟩ (.float .f64 y.mn)).setCell ⟨w.heap.size+1+1+1,10,none⟩ (.float .f64 y.mx)).drew=w8 at HJ8 HOw8 ⊢
    have HFi:Hid (∀ W,_):=Re.cfin_any y.sum (by first | exact HX.out.sum | exact HY.out.sum | exact Soft.fa_lt _ _)
    obtain ⟨q0,q1,q2,q3,q4,q5,q6,q7,q8,q9,q10⟩:=eleven_cells (hid_of HJ8.out.g4)
    obtain ⟨z0,z1,z2,z3,z4,z5,z6,z7,z8,z9,z10⟩:=eleven_cells (hid_of HJ8.out.g3)
    obtain ⟨f0,f1,f2,f3,f4,f5,f6,f7,f8,f9,f10⟩:=eleven_fr (hid_of HJ8.out.g3)
    have HR1:Hid (joinV x y=if Re.finF y.sum=false then (zV,2) else (jV x y,0)):=by have:=HR.out;rw [HFe.out] at this;exact this
    have hV:Hid (jV x y=⟨x.d,T,O,N,y.sum,y.mn,y.mx⟩):=by
     unfold Hid jV
     rw [HFe.out,HTN.out.1,HTN.out.2,mrgC_eq HO.out]
    clear HX HY HFx HFy HR HFe HO HTN
    cases hfin:Re.finF y.sum
    ·rw [hfin,if_pos rfl] at HR1
     rw [hfin] at HFi
     clear hfin
     go_wp2_with (go_at_call 90;with_reducible refine (HFi.out _).mono ?_;rintro e w9 ⟨rfl,rfl⟩)
     rw [put11_eq]
     have HS:=hid_of (set_eleven (v0:=.int .i64 0) (v1:=.string ⟨#[]⟩) (v2:=.string ⟨#[]⟩) (v3:=.slice none 0 0) (v4:=.int .i64 0) (v5:=.int .u64 0) (v6:=.slice none 0 0) (v7:=.int .u64 0) (v8:=.float .f64 0) (v9:=.float .f64 0) (v10:=.float .f64 0) HJ8.out.g3)
     obtain ⟨y0,y1,y2,y3,y4,y5,y6,y7,y8,y9,y10⟩:=eleven_cells HS
     simp [bodyPost,results,go_sem,y0,y1,y2,y3,y4,y5,y6,y7,y8,y9,y10]
     exact jn_err (by decide) HR1.out (put11_bel HJ8.out.bl (by omega) _ _ _ _ _ _ _ _ _ _ _)
    ·rw [hfin,if_neg (by decide)] at HR1
     rw [hfin] at HFi
     clear hfin
     go_wp2_with (go_at_call 90;with_reducible refine (HFi.out _).mono ?_;rintro e w9 ⟨rfl,rfl⟩)
     rw [put11_eq]
     have HS:=hid_of (set_eleven (v0:=.int .i64 x.d.kind) (v1:=.string ⟨x.d.name.toArray⟩) (v2:=.string ⟨x.d.help.toArray⟩) (v3:=.slice la x.d.labels.length lc) (v4:=.int .i64 (hiOf T)) (v5:=.int .u64 (loOf T)) (v6:=.slice a6 n6 c6) (v7:=.int .u64 (N:Int)) (v8:=.float .f64 y.sum) (v9:=.float .f64 y.mn) (v10:=.float .f64 y.mx) HJ8.out.g3)
     obtain ⟨y0,y1,y2,y3,y4,y5,y6,y7,y8,y9,y10⟩:=eleven_cells HS
     simp [bodyPost,results,go_sem,y0,y1,y2,y3,y4,y5,y6,y7,y8,y9,y10]
     refine ⟨la,x.d.labels.length,lc,a6,n6,c6,by rw [HR1.out,hV.out],fun _=>⟨rfl,?_⟩,put11_bel HJ8.out.bl (by omega) _ _ _ _ _ _ _ _ _ _ _⟩
     rw [HR1.out,hV.out]
     exact own_leG (own_put11 HOw8.out (own_ne HOw8.out (by omega)) _ _ _ _ _ _ _ _ _ _ _) (by omega)
   ·by_cases hy0:0 < y.n
    ·have HFe:Hid (jF x y=(Soft.fa x.sum y.sum,Re.outF x.mn y.mn (-1),Re.outF x.mx y.mx 1)):=by
      unfold Hid jF
      rw [if_neg hx0,if_pos hy0]
     have hx0':((x.n:Int) == 0)=false:=by rw [beq_eq_false_iff_ne];omega
     have hy0':(0:Int) < (y.n:Int):=by omega
     have hadd:=fun (W:World) (t:TypeId)=>run_add HX.out.sum HY.out.sum HFx.out HFy.out W t
     have HO1:Hid (∀ W,_):=Re.outer_any x.mn y.mn (-1) HX.out.mn HY.out.mn
     have HO2:Hid (∀ W,_):=Re.outer_any x.mx y.mx 1 HX.out.mx HY.out.mx
     clear hx0 hy0
     obtain ⟨c0,c1,c2,c3,c4,c5,c6',c7,c8,c9,c10⟩:=eleven_cells (hid_of HJ6.out.g1)
     obtain ⟨d0,d1,d2,d3,d4,d5,d6,d7,d8,d9,d10⟩:=eleven_cells (hid_of HJ6.out.g2)
     obtain ⟨q0,q1,q2,q3,q4,q5,q6,q7,q8,q9,q10⟩:=eleven_cells (hid_of HJ6.out.g4)
     have f8:=hid_fr (hid_of HJ6.out.g4) 8
     have f9:=hid_fr (hid_of HJ6.out.g4) 9
     have f10:=hid_fr (hid_of HJ6.out.g4) 10
     go_upto_region 13 with (go_at_call 317;(first | (with_reducible refine (HO1.out _).mono ?_) | (with_reducible refine (HO2.out _).mono ?_));rintro e w9 ⟨rfl,rfl⟩)
     have HJ8:=hid_of (((HJ6.out.set 8 (.float .f64 (Soft.fa x.sum y.sum)) rfl).set 9 (.float .f64 (Re.outF x.mn y.mn (-1))) rfl).set 10 (.float .f64 (Re.outF x.mx y.mx 1)) rfl)
     have hne:=own_ne HOw.out (show w.heap.size+1+1+1 < w.heap.size+4 by omega)
     have HOw8:=hid_of (own_set (own_set (own_set HOw.out (a:=⟨w.heap.size+1+1+1,8,none⟩) hne (.float .f64 (Soft.fa x.sum y.sum))) (a:=⟨w.heap.size+1+1+1,9,none⟩) hne (.float .f64 (Re.outF x.mn y.mn (-1)))) (a:=⟨w.heap.size+1+1+1,10,none⟩) hne (.float .f64 (Re.outF x.mx y.mx 1)))
     clear HJ6 HOw c0 c1 c2 c3 c4 c5 c6' c7 c8 c9 c10 d0 d1 d2 d3 d4 d5 d6 d7 d8 d9 d10 q0 q1 q2 q3 q4 q5 q6 q7 q8 q9 q10 f8 f9 f10 hne hadd HO1 HO2
     have HFi:Hid (∀ W,_):=Re.cfin_any (Soft.fa x.sum y.sum) (by first | exact HX.out.sum | exact HY.out.sum | exact Soft.fa_lt _ _)
     obtain ⟨q0,q1,q2,q3,q4,q5,q6,q7,q8,q9,q10⟩:=eleven_cells (hid_of HJ8.out.g4)
     obtain ⟨z0,z1,z2,z3,z4,z5,z6,z7,z8,z9,z10⟩:=eleven_cells (hid_of HJ8.out.g3)
     obtain ⟨f0,f1,f2,f3,f4,f5,f6,f7,f8,f9,f10⟩:=eleven_fr (hid_of HJ8.out.g3)
     have HR1:Hid (joinV x y=if Re.finF (Soft.fa x.sum y.sum)=false then (zV,2) else (jV x y,0)):=by have:=HR.out;rw [HFe.out] at this;exact this
     have hV:Hid (jV x y=⟨x.d,T,O,N,(Soft.fa x.sum y.sum),(Re.outF x.mn y.mn (-1)),(Re.outF x.mx y.mx 1)⟩):=by
      unfold Hid jV
      rw [HFe.out,HTN.out.1,HTN.out.2,mrgC_eq HO.out]
     clear HX HY HFx HFy HR HFe HO HTN
     cases hfin:Re.finF (Soft.fa x.sum y.sum)
     ·rw [hfin,if_pos rfl] at HR1
      rw [hfin] at HFi
      clear hfin
      go_wp2_with (go_at_call 90;with_reducible refine (HFi.out _).mono ?_;rintro e w9 ⟨rfl,rfl⟩)
      rw [put11_eq]
      have HS:=hid_of (set_eleven (v0:=.int .i64 0) (v1:=.string ⟨#[]⟩) (v2:=.string ⟨#[]⟩) (v3:=.slice none 0 0) (v4:=.int .i64 0) (v5:=.int .u64 0) (v6:=.slice none 0 0) (v7:=.int .u64 0) (v8:=.float .f64 0) (v9:=.float .f64 0) (v10:=.float .f64 0) HJ8.out.g3)
      obtain ⟨y0,y1,y2,y3,y4,y5,y6,y7,y8,y9,y10⟩:=eleven_cells HS
      simp [bodyPost,results,go_sem,y0,y1,y2,y3,y4,y5,y6,y7,y8,y9,y10]
      exact jn_err (by decide) HR1.out (put11_bel HJ8.out.bl (by omega) _ _ _ _ _ _ _ _ _ _ _)
     ·rw [hfin,if_neg (by decide)] at HR1
      rw [hfin] at HFi
      clear hfin
      go_wp2_with (go_at_call 90;with_reducible refine (HFi.out _).mono ?_;rintro e w9 ⟨rfl,rfl⟩)
      rw [put11_eq]
      have HS:=hid_of (set_eleven (v0:=.int .i64 x.d.kind) (v1:=.string ⟨x.d.name.toArray⟩) (v2:=.string ⟨x.d.help.toArray⟩) (v3:=.slice la x.d.labels.length lc) (v4:=.int .i64 (hiOf T)) (v5:=.int .u64 (loOf T)) (v6:=.slice a6 n6 c6) (v7:=.int .u64 (N:Int)) (v8:=.float .f64 (Soft.fa x.sum y.sum)) (v9:=.float .f64 (Re.outF x.mn y.mn (-1))) (v10:=.float .f64 (Re.outF x.mx y.mx 1)) HJ8.out.g3)
      obtain ⟨y0,y1,y2,y3,y4,y5,y6,y7,y8,y9,y10⟩:=eleven_cells HS
      simp [bodyPost,results,go_sem,y0,y1,y2,y3,y4,y5,y6,y7,y8,y9,y10]
      refine ⟨la,x.d.labels.length,lc,a6,n6,c6,by rw [HR1.out,hV.out],fun _=>⟨rfl,?_⟩,put11_bel HJ8.out.bl (by omega) _ _ _ _ _ _ _ _ _ _ _⟩
      rw [HR1.out,hV.out]
      exact own_leG (own_put11 HOw8.out (own_ne HOw8.out (by omega)) _ _ _ _ _ _ _ _ _ _ _) (by omega)
    ·have HFe:Hid (jF x y=(x.sum,x.mn,x.mx)):=by
      unfold Hid jF
      rw [if_neg hx0,if_neg hy0]
     have hx0':((x.n:Int) == 0)=false:=by rw [beq_eq_false_iff_ne];omega
     have hy0':¬ (0:Int) < (y.n:Int):=by omega
     clear hx0 hy0
     obtain ⟨c0,c1,c2,c3,c4,c5,c6',c7,c8,c9,c10⟩:=eleven_cells (hid_of HJ6.out.g1)
     obtain ⟨d0,d1,d2,d3,d4,d5,d6,d7,d8,d9,d10⟩:=eleven_cells (hid_of HJ6.out.g2)
     go_upto_region 13 with fail
     have HJ8:=HJ6
     have HOw8:=HOw
     clear HJ6 HOw c0 c1 c2 c3 c4 c5 c6' c7 c8 c9 c10 d0 d1 d2 d3 d4 d5 d6 d7 d8 d9 d10
     have HFi:Hid (∀ W,_):=Re.cfin_any x.sum (by first | exact HX.out.sum | exact HY.out.sum | exact Soft.fa_lt _ _)
     obtain ⟨q0,q1,q2,q3,q4,q5,q6,q7,q8,q9,q10⟩:=eleven_cells (hid_of HJ8.out.g4)
     obtain ⟨z0,z1,z2,z3,z4,z5,z6,z7,z8,z9,z10⟩:=eleven_cells (hid_of HJ8.out.g3)
     obtain ⟨f0,f1,f2,f3,f4,f5,f6,f7,f8,f9,f10⟩:=eleven_fr (hid_of HJ8.out.g3)
     have HR1:Hid (joinV x y=if Re.finF x.sum=false then (zV,2) else (jV x y,0)):=by have:=HR.out;rw [HFe.out] at this;exact this
     have hV:Hid (jV x y=⟨x.d,T,O,N,x.sum,x.mn,x.mx⟩):=by
      unfold Hid jV
      rw [HFe.out,HTN.out.1,HTN.out.2,mrgC_eq HO.out]
     clear HX HY HFx HFy HR HFe HO HTN
     cases hfin:Re.finF x.sum
     ·rw [hfin,if_pos rfl] at HR1
      rw [hfin] at HFi
      clear hfin
      go_wp2_with (go_at_call 90;with_reducible refine (HFi.out _).mono ?_;rintro e w9 ⟨rfl,rfl⟩)
      rw [put11_eq]
      have HS:=hid_of (set_eleven (v0:=.int .i64 0) (v1:=.string ⟨#[]⟩) (v2:=.string ⟨#[]⟩) (v3:=.slice none 0 0) (v4:=.int .i64 0) (v5:=.int .u64 0) (v6:=.slice none 0 0) (v7:=.int .u64 0) (v8:=.float .f64 0) (v9:=.float .f64 0) (v10:=.float .f64 0) HJ8.out.g3)
      obtain ⟨y0,y1,y2,y3,y4,y5,y6,y7,y8,y9,y10⟩:=eleven_cells HS
      simp [bodyPost,results,go_sem,y0,y1,y2,y3,y4,y5,y6,y7,y8,y9,y10]
      exact jn_err (by decide) HR1.out (put11_bel HJ8.out.bl (by omega) _ _ _ _ _ _ _ _ _ _ _)
     ·rw [hfin,if_neg (by decide)] at HR1
      rw [hfin] at HFi
      clear hfin
      go_wp2_with (go_at_call 90;with_reducible refine (HFi.out _).mono ?_;rintro e w9 ⟨rfl,rfl⟩)
      rw [put11_eq]
      have HS:=hid_of (set_eleven (v0:=.int .i64 x.d.kind) (v1:=.string ⟨x.d.name.toArray⟩) (v2:=.string ⟨x.d.help.toArray⟩) (v3:=.slice la x.d.labels.length lc) (v4:=.int .i64 (hiOf T)) (v5:=.int .u64 (loOf T)) (v6:=.slice a6 n6 c6) (v7:=.int .u64 (N:Int)) (v8:=.float .f64 x.sum) (v9:=.float .f64 x.mn) (v10:=.float .f64 x.mx) HJ8.out.g3)
      obtain ⟨y0,y1,y2,y3,y4,y5,y6,y7,y8,y9,y10⟩:=eleven_cells HS
      simp [bodyPost,results,go_sem,y0,y1,y2,y3,y4,y5,y6,y7,y8,y9,y10]
      refine ⟨la,x.d.labels.length,lc,a6,n6,c6,by rw [HR1.out,hV.out],fun _=>⟨rfl,?_⟩,put11_bel HJ8.out.bl (by omega) _ _ _ _ _ _ _ _ _ _ _⟩
      rw [HR1.out,hV.out]
      exact own_leG (own_put11 HOw8.out (own_ne HOw8.out (by omega)) _ _ _ _ _ _ _ _ _ _ _) (by omega)
end Go.Proofs.YtlgkfeeclgcgbaaGreatDoor
