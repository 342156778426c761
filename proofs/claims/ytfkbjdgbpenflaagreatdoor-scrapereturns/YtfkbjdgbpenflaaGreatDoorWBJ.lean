/- THE READER: float, quantiles. Own work of the verifier. -/
import Derived.Test.YtfkbjdgbpenflaaGreatDoorWBI
set_option maxRecDepth 100000
set_option maxHeartbeats 8000000
namespace Go.Proofs.YtfkbjdgbpenflaaGreatDoor.Sc
open Go.RowKit Me
def RPf (S:List UInt8) (f:Nat):Prop:=∀ W,Mx W→Calls Tryz.prog 191 #[.string ⟨S.toArray⟩] W fun e w'=>e=.returned (.tuple #[.float .f64 f,.int .i64 0])∧Below W.heap.size W w'
theorem float_ok (rb:Nat) (S:List UInt8) (f:Nat) (hf:RPf S f) (w:World) (hm:Mx w):Calls Tryz.prog 171 #[.pointer (some ⟨rb,0,none⟩),.string ⟨S.toArray⟩] w fun e w'=>e=.returned (.float .f64 f)∧Below w.heap.size w w':=by
 have HP:La.HidC _ _ _ _ _:=hf w hm
 have HYes:=must_all rb
 clear hf hm
 go_enter Tryz.func171,Tryz.ntmps171
 go_wp2_with fail
 refine Calls.mono HP.out ?_
 rintro e w1 ⟨rfl,hb⟩
 have HB:=hid_of hb
 clear HP hb
 go_wp2_with fail
 refine Calls.mono (HYes.out _) ?_
 rintro e w2 ⟨rfl,rfl⟩
 go_wp2_with fail
 go_ret
 exact ⟨rfl,HB.out⟩
structure Qs (u:World) (rb vb:Nat) (w:World) (x:Vl) (lv cv:Value) (T:List UInt8) (n:Nat) (W:World):Prop where
 at_:W.heap[rb]? =some (.cells #[.string ⟨T.toArray⟩,.int .i64 (n:Int)] 56)
 v:W.heap[vb]? =some (.cells (vc x lv cv) 45)
 ch:Chg (fun b=>b=rb∨b=vb) w W
 lo:u.heap.size≤rb
 lov:u.heap.size≤vb
 st:Below u.heap.size u W
 ne:rb≠vb
theorem Qs.rd {u:World} {rb vb:Nat} {w W:World} {x:Vl} {lv cv:Value} {T:List UInt8} {n:Nat} (h:Qs u rb vb w x lv cv T n W):Rd u rb W T n W:=⟨h.at_,Chg.refl _ _,h.lo,h.st⟩
theorem Qs.called {u:World} {rb vb:Nat} {w W W':World} {x:Vl} {lv cv:Value} {T T':List UInt8} {n n':Nat} (h:Qs u rb vb w x lv cv T n W) (k:Rd u rb W T' n' W'):Qs u rb vb w x lv cv T' n' W' :=
 ⟨k.at_,k.ch.at_ h.v (fun e=>h.ne e.symm),h.ch.trans k.ch (fun _b e=>Or.inl (Or.inl e)),h.lo,h.lov,k.st,h.ne⟩
theorem Qs.keep {u:World} {rb vb:Nat} {w W W':World} {x:Vl} {lv cv:Value} {T:List UInt8} {n:Nat} (h:Qs u rb vb w x lv cv T n W) (hb:Below W.heap.size W W'):Qs u rb vb w x lv cv T n W':=h.called (h.rd.below hb)
theorem Qs.set {u:World} {rb vb:Nat} {w W:World} {x x':Vl} {lv lv' cv:Value} {T:List UInt8} {n:Nat} (h:Qs u rb vb w x lv cv T n W) (j:Nat) (y:Value) (e:(vc x lv cv).setIfInBounds j y=vc x' lv' cv):Qs u rb vb w x' lv' cv T n (W.setCell ⟨vb,j,none⟩ y):=by
 refine ⟨?_,?_,h.ch.trans (chg_set _ _ _) (fun b q=>Or.inl (Or.inr q)),h.lo,h.lov,h.st.setCell (p:=⟨vb,j,none⟩) h.lov y,h.ne⟩
 ·rw [heap_other _ _ _ _ (by show rb≠vb;exact h.ne)]
  exact h.at_
 ·have:=Lib.heap_setCell_same (i:=j) h.v y
  rw [this,e]
abbrev quW:List UInt8:=[113,117,97,110,116,105,108,101]
def MoQ (T x y z T':List UInt8):Prop:=(cut10 T).2.2=true∧morR quW (cut10 T).1=some (x,y,z)∧(cut10 T).2.1=T'
theorem moq_any {u:World} {rb:Nat} (hm:Mx u):Hid (∀ (T x y z T1:List UInt8) (n:Nat) (W:World),Rd u rb W T n W→T.length≤4194304→n≤4611686018427387904→MoQ T x y z T1→Calls Tryz.prog 166 #[.pointer (some ⟨rb,0,none⟩),.string ⟨#[113,117,97,110,116,105,108,101]⟩] W fun e w'=>e=.returned (.tuple #[.string ⟨x.toArray⟩,.string ⟨y.toArray⟩,.string ⟨z.toArray⟩])∧Rd u rb W T1 (n+1) w'):=fun T x y z T1 n W h h1 h2 ⟨m1,m2,m3⟩=>by
 refine Calls.mono (more_any u rb T quW n W W h hm h1 h2 (by decide)) ?_
 rintro e w' (⟨x',y',z',k1,k2,k3,k4⟩ | ⟨k1,_⟩)
 ·rw [m2] at k2
  cases k2
  rw [m3] at k4
  exact ⟨k3,k4⟩
 ·rw [k1 m1] at m2;cases m2
noncomputable abbrev qB:Code:=bodyC Tryz.f170.body
def fr65 (f:Nat→Value):Array Value:=((List.range 65).map f).toArray
theorem fr65_lit (f:Nat→Value):fr65 f=#[f 0,f 1,f 2,f 3,f 4,f 5,f 6,f 7,f 8,f 9,f 10,f 11,f 12,f 13,f 14,f 15,f 16,f 17,f 18,f 19,f 20,f 21,f 22,f 23,f 24,f 25,f 26,f 27,f 28,f 29,f 30,f 31,f 32,f 33,f 34,f 35,f 36,f 37,f 38,f 39,f 40,f 41,f 42,f 43,f 44,f 45,f 46,f 47,f 48,f 49,f 50,f 51,f 52,f 53,f 54,f 55,f 56,f 57,f 58,f 59,f 60,f 61,f 62,f 63,f 64]:=rfl
theorem fr65_to (a:Array Value) (h:a.size=65):a=fr65 (fun i=>a.getD i (.bool false)):=by
 apply Array.ext
 ·simp [fr65,h]
 ·intro i h1 h2
  simp [fr65,Array.getD,h1]
theorem wp_fr65 {c:Code} {Q:Exit→Act→World→Prop} {a:Array Value} {W:World} (h:a.size=65) (k:Code.wp Tryz.prog c Q ⟨fr65 (fun i=>a.getD i (.bool false)),[]⟩ W):Code.wp Tryz.prog c Q ⟨a,[]⟩ W:=by
 rw [← fr65_to a h] at k
 exact k
theorem qpt0:sDrop 0 qB=.seq (sFirst (sDrop 0 qB)) (sDrop 1 qB):=by kernel_rfl
theorem qpt1:sDrop 1 qB=.seq (sFirst (sDrop 1 qB)) (sDrop 2 qB):=by kernel_rfl
theorem qpt2:sDrop 2 qB=.seq (sFirst (sDrop 2 qB)) (sDrop 3 qB):=by kernel_rfl
abbrev QuR (u:World) (rb vb:Nat) (w:World) (x:Vl) (cv:Value) (T:List UInt8) (n:Nat) (e:Ending) (w':World):Prop:=e=.returned (.tuple #[])∧∃ lv,Qs u rb vb w x lv cv T n w'∧La.OwnL w.heap.size lv x.d.labels w'
theorem val_ne:(85:TypeId)≠45:=by decide
theorem quant_end (u:World) (rb vb:Nat) (w W:World) (x:Vl) (lv cv:Value) (A z1 z2 T T2:List UInt8) (m1 m2 n:Nat) (f:Nat→Value) (hm:Mx u) (hT:T.length≤4194304) (hn:n≤4611686018427387904)
  (h0:f 0=.pointer (some ⟨rb,0,none⟩)) (h1:f 1=.pointer (some ⟨vb,0,none⟩)) (h4:f 4=.string ⟨A.toArray⟩) (h6:f 6=.string ⟨z1.toArray⟩)
  (hQ:Qs u rb vb w x lv cv T n W) (hL:La.OwnL w.heap.size lv x.d.labels W) (hf1:RPf z1 m1) (hM:MoQ T A [49] z2 T2) (hf2:RPf z2 m2) :
  Code.wp Tryz.prog (sDrop 3 qB) (bodyPost Tryz.prog Tryz.f170 (QuR u rb vb w { x with mn:=m1,mx:=m2 } cv T2 (n+1))) ⟨fr65 f,[]⟩ W:=by
 obtain ⟨la,lg,lc,rfl,-⟩:=own_form hL
 have D1:La.HidC _ _ _ _ _:=float_ok rb z1 m1 hf1 W (hm.below hQ.st)
 have HD3:Hid (∀ W,Below u.heap.size u W→_):=fun W k=>float_ok rb z2 m2 hf2 W (hm.below k)
 have HMo:Hid (∀ x' lv' W',Qs u rb vb w x' lv' cv T n W'→_):=fun x' lv' W' k=>(moq_any hm).out T A [49] z2 T2 n W' k.rd hT hn hM
 have HYes:=must_all rb
 have sF:=store_f
 have HQ:=hid_of hQ
 have HL:=hid_of hL
 rw [fr65_lit,h0,h1,h4,h6]
 clear h0 h1 h4 h6 hQ hL hf1 hf2 hM hm hT hn
 dsimp only [sDrop,sFirst,bodyC,qB,Tryz.f170]
 go_wp2_with fail
 refine Calls.mono D1.out ?_
 rintro e w1 ⟨rfl,hb1⟩
 have HQ1:=hid_of (HQ.out.keep hb1)
 have HL1:=hid_of (own_belL HL.out hb1)
 have hv1:=HQ1.out.v
 have f9:w1.frozen? ⟨vb,9,none⟩=false:=by simp [World.frozen?,hv1]
 obtain ⟨c0,c1,c2,c3,c4,c5,c6,c7,c8,c9,c10⟩:=elev hv1
 have HQ2:Hid (Qs u rb vb w { x with mn:=m1 } (.slice la x.d.labels.length lc) cv T n (w1.setCell ⟨vb,9,none⟩ (.float .f64 m1))):=HQ1.out.set 9 _ rfl
 have HL2:Hid (La.OwnL w.heap.size (.slice la x.d.labels.length lc) x.d.labels (w1.setCell ⟨vb,9,none⟩ (.float .f64 m1))):=own_setG HL1.out (own_notype HL1.out hv1 val_ne) _
 have D2:La.HidC _ _ _ _ _:=HMo.out _ _ _ HQ2.out
 clear D1 HMo hb1 HQ HL HQ1 HL1 hv1
 go_wp2_with fail
 refine Calls.mono D2.out ?_
 rintro e w3 ⟨rfl,hr3⟩
 have HQ3:=hid_of (HQ2.out.called hr3)
 have HL3:=hid_of (own_rd HL2.out hr3 ⟨_,_,HQ2.out.at_⟩)
 clear D2 hr3 HQ2 HL2 f9 c0 c1 c2 c3 c4 c5 c6 c7 c8 c9 c10
 go_wp2_with fail
 refine Calls.mono (HYes.out _) ?_
 rintro e w4 ⟨rfl,rfl⟩
 go_wp2_with fail
 refine Calls.mono (HD3.out _ HQ3.out.st) ?_
 rintro e w5 ⟨rfl,hb5⟩
 have HQ5:=hid_of (HQ3.out.keep hb5)
 have HL5:=hid_of (own_belL HL3.out hb5)
 have hv5:=HQ5.out.v
 have f10:w5.frozen? ⟨vb,10,none⟩=false:=by simp [World.frozen?,hv5]
 obtain ⟨c0,c1,c2,c3,c4,c5,c6,c7,c8,c9,c10⟩:=elev hv5
 have HF:Hid (QuR u rb vb w { x with mn:=m1,mx:=m2 } cv T2 (n+1) (.returned (.tuple #[])) (w5.setCell ⟨vb,10,none⟩ (.float .f64 m2))):=⟨rfl,_,HQ5.out.set 10 _ rfl,own_setG HL5.out (own_notype HL5.out hv5 val_ne) _⟩
 clear HD3 HYes HQ3 HL3 hb5 HQ5 HL5 hv5
 go_wp2_with fail
 go_end0
 exact HF.out
theorem quantiles_ok (u:World) (rb vb:Nat) (w:World) (x:Vl) (lv0 cv:Value) (A S z1 z2 T T1 T2:List UInt8) (m1 m2 n:Nat) (hm:Mx u) (hT:T.length≤4194304) (hn:n≤4611686018427387900) (hN:x.d.name.length≤4194304)
  (hQ:Qs u rb vb w x lv0 cv T n w) (hM1:MoQ T A [48] z1 T1) (hp:Lib.hasPrefix A (x.d.name++[123])=true) (hS:Lib.trimPrefix A (x.d.name++[123])=S) (hO:othR x.d.name S=some x.d.labels) (hf1:RPf z1 m1) (hM2:MoQ T1 A [49] z2 T2) (hf2:RPf z2 m2) :
  Calls Tryz.prog 170 #[.pointer (some ⟨rb,0,none⟩),.pointer (some ⟨vb,0,none⟩)] w (QuR u rb vb w { x with mn:=m1,mx:=m2 } cv T2 (n+2)):=by
 have hl1:T1.length < T.length:=by rw [← hM1.2.2];exact cut_lt hM1.1
 have hSl:S.length≤4194304:=by
  have h1:=mor_len hM1.2.1
  have h2:=(cut_len T).1
  have h3:=trim_len A (x.d.name++[123])
  rw [hS] at h3
  omega
 have D1:La.HidC _ _ _ _ _:=(moq_any hm).out T A [48] z1 T1 n w hQ.rd hT (by omega) hM1
 have HYes:=must_all rb
 have HBe:Hid (∀ (w1 W':World),Qs u rb vb w x lv0 cv T1 (n+1) w1→Below w1.heap.size w1 W'→Calls Tryz.prog 27 #[.pointer (some ⟨rb,0,none⟩),.string ⟨A.toArray⟩,.string ⟨(x.d.name++[123]).toArray⟩] W' fun e w'=>e=.returned (.string ⟨S.toArray⟩)∧w'=W'):=fun w1 W' k hb=>by
  refine Calls.mono (behind_any u rb T1 A (x.d.name++[123]) (n+1) W' W' (k.keep hb).rd) ?_
  rintro e w' ⟨q0,⟨_,q1⟩ | ⟨q1,_⟩⟩
  ·rw [hS] at q1;exact ⟨q1,q0⟩
  ·rw [hp] at q1;cases q1
 have HOe:Hid (∀ (w1 W':World),Qs u rb vb w x lv0 cv T1 (n+1) w1→Below w1.heap.size w1 W'→Calls Tryz.prog 167 #[.pointer (some ⟨rb,0,none⟩),.string ⟨x.d.name.toArray⟩,.string ⟨S.toArray⟩] W' fun e w'=>∃ la lc,e=.returned (.slice la x.d.labels.length lc)∧Hid (Qs u rb vb w x lv0 cv T1 (n+1) w'∧La.OwnL w.heap.size (.slice la x.d.labels.length lc) x.d.labels w')):=fun w1 W' k hb=>by
  have k2:=k.keep hb
  refine Calls.mono (others_any u rb T1 x.d.name S (n+1) W' W' k2.rd hSl hN) ?_
  rintro e w' ⟨q0,⟨L',v,q1,rfl,q3⟩ | ⟨q1,_⟩⟩
  ·rw [hO] at q1
   cases q1
   obtain ⟨la,lg,lc,rfl,-⟩:=own_form q3
   exact ⟨la,lc,rfl,k2.keep q0,own_mono q3 k2.ch.size⟩
  ·rw [hO] at q1;cases q1
 have sA:∀ W,(Op.stringOp .add ⟨x.d.name.toArray⟩ ⟨#[123]⟩).run Tryz.prog W=.ok (.string ⟨(x.d.name++[123]).toArray⟩) W:=fun W=>La.sadd x.d.name [123] (by simp;omega) W
 have HFin:Hid (∀ (f:Nat→Value) (lv:Value) (W:World),f 0=.pointer (some ⟨rb,0,none⟩)→f 1=.pointer (some ⟨vb,0,none⟩)→f 4=.string ⟨A.toArray⟩→f 6=.string ⟨z1.toArray⟩→Qs u rb vb w x lv cv T1 (n+1) W→La.OwnL w.heap.size lv x.d.labels W→Code.wp Tryz.prog (sDrop 3 qB) (bodyPost Tryz.prog Tryz.f170 (QuR u rb vb w { x with mn:=m1,mx:=m2 } cv T2 (n+2))) ⟨fr65 f,[]⟩ W):=fun f lv W e0 e1 e4 e6 hq hl=>quant_end u rb vb w W x lv cv A z1 z2 T1 T2 m1 m2 (n+1) f hm (by omega) (by omega) e0 e1 e4 e6 hq hl hf1 hM2 hf2
 have HQ:=hid_of hQ
 clear hm hT hn hN hM1 hp hS hO hf1 hM2 hf2 hl1 hSl hQ
 generalize x.d.name++[(123:UInt8)]=V at *
 go_enter Tryz.func170,Tryz.ntmps170
 show Code.wp Tryz.prog (sDrop 0 qB) (bodyPost Tryz.prog Tryz.f170 (QuR u rb vb w { x with mn:=m1,mx:=m2 } cv T2 (n+2))) _ _
 rw [qpt0]
 refine wp_seq_k fun K hK=>?_
 dsimp only [sDrop,sFirst,bodyC,qB,Tryz.f170]
 go_wp2_with fail
 refine Calls.mono D1.out ?_
 rintro e w1 ⟨rfl,hr1⟩
 have HQ1:=hid_of (HQ.out.called hr1)
 clear D1 hr1 HQ
 go_wp2_with fail
 rw [qpt1]
 refine wp_seq_k fun K hK=>?_
 dsimp only [sDrop,sFirst,bodyC,qB,Tryz.f170]
 go_wp2_with fail
 refine Calls.mono (HYes.out _) ?_
 rintro e w2 ⟨rfl,rfl⟩
 go_wp2_with fail
 rw [qpt2]
 refine wp_seq_k fun K hK=>?_
 have HB2:Hid (∀ W',Below w2.heap.size w2 W'→_):=fun W' hb=>HBe.out w2 W' HQ1.out hb
 have HO2:Hid (∀ W',Below w2.heap.size w2 W'→_):=fun W' hb=>HOe.out w2 W' HQ1.out hb
 obtain ⟨c0,c1,c2,c3,c4,c5,c6,c7,c8,c9,c10⟩:=elev HQ1.out.v
 clear HBe HOe
 dsimp only [sDrop,sFirst,bodyC,qB,Tryz.f170]
 go_region_law
  (first
   | (rw [if_pos (by simp [Region.wanted])];go_simp;with_reducible refine Calls.mono (HB2.out _ (by first | exact Below.refl _ _ | exact (Below.refl _ _).drew)) ?_;rintro e w3 ⟨rfl,rfl⟩;simp only [])
   | (rw [if_pos (by simp [Region.wanted])];go_simp;with_reducible refine Calls.mono (HO2.out _ (by first | exact Below.refl _ _ | exact (Below.refl _ _).drew)) ?_;rintro e w5 ⟨la,lc,rfl,H5⟩;have hv5:=H5.out.1.v;obtain ⟨y0,y1,y2,y3,y4,y5,y6,y7,y8,y9,y10⟩:=elev hv5;have fz:w5.frozen? ⟨vb,3,none⟩=false:=(by simp [World.frozen?,hv5]);simp only []))
 all_goals
  refine hK _ _ (wp_fr65 rfl ?_)
  exact HFin.out _ (.slice la x.d.labels.length lc) _ rfl rfl rfl rfl (H5.out.1.set 3 _ rfl) (own_setG H5.out.2 (own_notype H5.out.2 hv5 val_ne) _)
structure Sm (u:World) (rb:Nat) (w:World) (x:Vl) (lv lv0:Value) (T:List UInt8) (n:Nat) (W:World):Prop where
 rd:Rd u rb w T n W
 lt:rb < w.heap.size
 d:W.heap[w.heap.size]? =some (.cells (d4 x.d.kind x.d.name x.d.help lv0) 41)
 r:W.heap[w.heap.size+1]? =some (.cells z11 45)
 v:W.heap[w.heap.size+2]? =some (.cells (vc x lv (.slice none 0 0)) 45)
theorem Sm.keep {u:World} {rb:Nat} {w W:World} {x:Vl} {lv lv0:Value} {T:List UInt8} {n:Nat} {W':World} (h:Sm u rb w x lv lv0 T n W) (hb:Below W.heap.size W W'):Sm u rb w x lv lv0 T n W':=⟨h.rd.below hb,h.lt,hkN' h.d hb,hkN' h.r hb,hkN' h.v hb⟩
theorem Sm.called {u:World} {rb:Nat} {w W:World} {x:Vl} {lv lv0:Value} {T:List UInt8} {n:Nat} {W':World} {T':List UInt8} {n':Nat} (h:Sm u rb w x lv lv0 T n W) (k:Rd u rb W T' n' W'):Sm u rb w x lv lv0 T' n' W':=by
 have lt:=h.lt
 exact ⟨h.rd.then k,lt,k.ch.at_ h.d (by omega),k.ch.at_ h.r (by omega),k.ch.at_ h.v (by omega)⟩
theorem Sm.set {u:World} {rb:Nat} {w W:World} {x:Vl} {lv lv0:Value} {T:List UInt8} {n:Nat} {x':Vl} {lv':Value} (h:Sm u rb w x lv lv0 T n W) (j:Nat) (y:Value) (e:(vc x lv (.slice none 0 0)).setIfInBounds j y=vc x' lv' (.slice none 0 0)) (ed:x'.d.kind=x.d.kind∧x'.d.name=x.d.name∧x'.d.help=x.d.help):Sm u rb w x' lv' lv0 T n (W.setCell ⟨w.heap.size+2,j,none⟩ y):=by
 have lt:=h.lt
 have hlo:=h.rd.lo
 have hss:=h.rd.st.size
 refine ⟨h.rd.put ⟨w.heap.size+2,j,none⟩ y (by show w.heap.size+2≠rb;omega) (by show w.heap.size≤w.heap.size+2;omega) (by show u.heap.size≤w.heap.size+2;omega),lt,?_,?_,?_⟩
 ·rw [heap_other _ _ _ _ (by show w.heap.size≠w.heap.size+2;omega),ed.1,ed.2.1,ed.2.2]
  exact h.d
 ·rw [heap_other _ _ _ _ (by show w.heap.size+1≠w.heap.size+2;omega)]
  exact h.r
 ·have:=Lib.heap_setCell_same (i:=j) h.v y
  rw [this,e]
theorem Sm.own {u:World} {rb:Nat} {w W:World} {x:Vl} {lv lv0:Value} {T:List UInt8} {n:Nat} {B:Nat} {v:Value} {L:List La.Lb} {W':World} {T':List UInt8} {n':Nat} (h:Sm u rb w x lv lv0 T n W) (ho:La.OwnL B v L W) (k:Rd u rb W T' n' W'):La.OwnL B v L W':=own_rd ho k ⟨_,_,h.rd.at_⟩
noncomputable abbrev sB:Code:=bodyC Tryz.f137.body
def fr77 (f:Nat→Value):Array Value:=((List.range 77).map f).toArray
theorem fr77_lit (f:Nat→Value):fr77 f=#[f 0,f 1,f 2,f 3,f 4,f 5,f 6,f 7,f 8,f 9,f 10,f 11,f 12,f 13,f 14,f 15,f 16,f 17,f 18,f 19,f 20,f 21,f 22,f 23,f 24,f 25,f 26,f 27,f 28,f 29,f 30,f 31,f 32,f 33,f 34,f 35,f 36,f 37,f 38,f 39,f 40,f 41,f 42,f 43,f 44,f 45,f 46,f 47,f 48,f 49,f 50,f 51,f 52,f 53,f 54,f 55,f 56,f 57,f 58,f 59,f 60,f 61,f 62,f 63,f 64,f 65,f 66,f 67,f 68,f 69,f 70,f 71,f 72,f 73,f 74,f 75,f 76]:=rfl
theorem fr77_to (a:Array Value) (h:a.size=77):a=fr77 (fun i=>a.getD i (.bool false)):=by
 apply Array.ext
 ·simp [fr77,h]
 ·intro i h1 h2
  simp [fr77,Array.getD,h1]
theorem wp_fr77 {c:Code} {Q:Exit→Act→World→Prop} {a:Array Value} {W:World} (h:a.size=77) (k:Code.wp Tryz.prog c Q ⟨fr77 (fun i=>a.getD i (.bool false)),[]⟩ W):Code.wp Tryz.prog c Q ⟨a,[]⟩ W:=by
 rw [← fr77_to a h] at k
 exact k
theorem spt0:sDrop 0 sB=.seq (sFirst (sDrop 0 sB)) (sDrop 1 sB):=by kernel_rfl
theorem spt1:sDrop 1 sB=.seq (sFirst (sDrop 1 sB)) (sDrop 2 sB):=by kernel_rfl
theorem spt2:sDrop 2 sB=.seq (sFirst (sDrop 2 sB)) (sDrop 3 sB):=by kernel_rfl
theorem spt3:sDrop 3 sB=.seq (sFirst (sDrop 3 sB)) (sDrop 4 sB):=by kernel_rfl
theorem spt4:sDrop 4 sB=.seq (sFirst (sDrop 4 sB)) (sDrop 5 sB):=by kernel_rfl
theorem spt5:sDrop 5 sB=.seq (sFirst (sDrop 5 sB)) (sDrop 6 sB):=by kernel_rfl
theorem sum_fin (u:World) (rb:Nat) (w W:World) (x:Vl) (lv lv0:Value) (T:List UInt8) (n:Nat) (f:Nat→Value)
  (h4:f 4=.pointer (some ⟨w.heap.size+1,0,none⟩)) (h5:f 5=.pointer (some ⟨w.heap.size+2,0,none⟩)) (hH:Sm u rb w x lv lv0 T n W) (hL:La.OwnL w.heap.size lv x.d.labels W) (hc:x.cs=[]) :
  Code.wp Tryz.prog (sDrop 6 sB) (bodyPost Tryz.prog Tryz.f137 (VlR u rb w x T n)) ⟨fr77 f,[]⟩ W:=by
 obtain ⟨la,lg,lc,rfl,-⟩:=own_form hL
 have sF:=store_f
 have lt:=hH.lt
 have hlo:=hH.rd.lo
 have hss:=hH.rd.st.size
 have HF:Hid (VlR u rb w x T n (.returned (.agg (vc x (.slice la x.d.labels.length lc) (.slice none 0 0)))) (put11 W (w.heap.size+1) (.int .i64 x.d.kind) (.string ⟨x.d.name.toArray⟩) (.string ⟨x.d.help.toArray⟩) (.slice la x.d.labels.length lc) (.int .i64 (hiOf x.t)) (.int .u64 (loOf x.t)) (.slice none 0 0) (.int .u64 (x.n:Int)) (.float .f64 x.sum) (.float .f64 x.mn) (.float .f64 x.mx))):=⟨_,_,rfl,hH.rd.put11 _ _ _ _ _ _ _ _ _ _ _ _ (by omega) (by omega) (by omega),own_put11G hL (own_notype hL hH.r types_lv) _ _ _ _ _ _ _ _ _ _ _,by rw [hc];exact World.ownsRow_nil _ _ _ _⟩
 have HPH:=hid_of (put11_heap hH.r (.int .i64 x.d.kind) (.string ⟨x.d.name.toArray⟩) (.string ⟨x.d.help.toArray⟩) (.slice la x.d.labels.length lc) (.int .i64 (hiOf x.t)) (.int .u64 (loOf x.t)) (.slice none 0 0) (.int .u64 (x.n:Int)) (.float .f64 x.sum) (.float .f64 x.mn) (.float .f64 x.mx))
 have hr:=hH.r
 obtain ⟨c0,c1,c2,c3,c4,c5,c6,c7,c8,c9,c10⟩:=elev hH.v
 obtain ⟨r0,r1,r2,r3,r4,r5,r6,r7,r8,r9,r10⟩:=elev hr
 have fz:∀ o,W.frozen? ⟨w.heap.size+1,o,none⟩=false:=fun o=>by simp [World.frozen?,hr]
 rw [fr77_lit,h4,h5]
 clear h4 h5 hH hr hL hc
 dsimp only [sDrop,sFirst,bodyC,sB,Tryz.f137]
 go_wp2_with fail
 change bodyPost _ _ _ _ _ (put11 W (w.heap.size+1) (.int .i64 x.d.kind) (.string ⟨x.d.name.toArray⟩) (.string ⟨x.d.help.toArray⟩) (.slice la x.d.labels.length lc) (.int .i64 (hiOf x.t)) (.int .u64 (loOf x.t)) (.slice none 0 0) (.int .u64 (x.n:Int)) (.float .f64 x.sum) (.float .f64 x.mn) (.float .f64 x.mx))
 generalize put11 W (w.heap.size+1) (.int .i64 x.d.kind) (.string ⟨x.d.name.toArray⟩) (.string ⟨x.d.help.toArray⟩) (.slice la x.d.labels.length lc) (.int .i64 (hiOf x.t)) (.int .u64 (loOf x.t)) (.slice none 0 0) (.int .u64 (x.n:Int)) (.float .f64 x.sum) (.float .f64 x.mn) (.float .f64 x.mx)=W9 at *
 refine bodyPost_ret (results_cell_row (P:=Tryz.prog) rfl _ _ (w.heap.size+1) 45 _ (0,0) _ rfl HPH.out Tryz.underlying45 rfl (by kernel_rfl)) rfl ?_
 exact HF.out
theorem sum_cnt (u:World) (rb:Nat) (w W:World) (x:Vl) (lv lv0:Value) (T b:List UInt8) (N n:Nat) (em:Bool) (f:Nat→Value) (hm:Mx u) (ht:Wi.Tab u) (hT:T.length≤4194304) (hn:n≤4611686018427387904) (hN:x.d.name.length≤4194304) (hv:∀ q ∈ x.d.labels,q.2.length≤9223372036854775807) (hP:(La.printT (x.d.name++[95,99,111,117,110,116]) x.d.labels).length≤140737488355328)
  (h0:f 0=.pointer (some ⟨rb,0,none⟩)) (h3:f 3=.pointer (some ⟨w.heap.size,0,none⟩)) (h4:f 4=.pointer (some ⟨w.heap.size+1,0,none⟩)) (h5:f 5=.pointer (some ⟨w.heap.size+2,0,none⟩)) (h6:f 6=.bool em) (hH:Sm u rb w x lv lv0 T n W) (hL:La.OwnL w.heap.size lv x.d.labels W) (hcs:x.cs=[])
  (hc:(cut10 T).2.2=true) (hs:spl (cut10 T).1=some (La.printT (x.d.name++[95,99,111,117,110,116]) x.d.labels,b)) (hw:whoR b=some N) (he:em=decide (N=0)) :
  Code.wp Tryz.prog (sDrop 4 sB) (bodyPost Tryz.prog Tryz.f137 (VlR u rb w { x with n:=N } (cut10 T).2.1 (n+1))) ⟨fr77 f,[]⟩ W:=by
 obtain ⟨la,lg,lc,rfl,-⟩:=own_form hL
 have sA:∀ W,(Op.stringOp .add ⟨x.d.name.toArray⟩ ⟨#[95,99,111,117,110,116]⟩).run Tryz.prog W=.ok (.string ⟨(x.d.name++[95,99,111,117,110,116]).toArray⟩) W:=fun W=>La.sadd x.d.name [95,99,111,117,110,116] (by simp;omega) W
 have D1:La.HidC _ _ _ _ _:=(num_all hm x.d.labels hv).out T (x.d.name++[95,99,111,117,110,116]) b (.slice la x.d.labels.length lc) w.heap.size n W hH.rd.re hT hn hL hP hc hs
 have HD2:Hid (∀ W',Rd u rb w (cut10 T).2.1 (n+1) W'→_):=fun W' k=>(who_all ht).out _ b (n+1) N w W' k hw
 have HYes:=must_all rb
 have HH:=hid_of hH
 have HL:=hid_of hL
 have HC:=hid_of hcs
 have hem:(em == ((N:Int) == 0))=true:=by
  rw [he]
  by_cases h:N=0 <;> simp [h]
 have hem2:(em == (N == 0))=true:=by
  rw [he]
  by_cases h:N=0 <;> simp [h]
 obtain ⟨c0,c1,c2,c3⟩:=four_cells hH.d
 obtain ⟨d0,d1,d2,d3,d4,d5,d6,d7,d8,d9,d10⟩:=elev hH.v
 rw [spt4]
 refine wp_seq_k fun K hK=>?_
 rw [fr77_lit,h0,h3,h4,h5,h6]
 clear h0 h3 h4 h5 h6 hH ht hm hT hN hP hc hs hw hv hn hL hcs he
 generalize x.d.name++[(95:UInt8),99,111,117,110,116]=V at *
 dsimp only [sDrop,sFirst,bodyC,sB,Tryz.f137]
 go_wp2_with fail
 refine Calls.mono D1.out ?_
 rintro e w1 ⟨rfl,hr1⟩
 have HH1:=hid_of (HH.out.called hr1)
 have HL1:=hid_of (HH.out.own HL.out hr1)
 have D2:La.HidC _ _ _ _ _:=HD2.out w1 HH1.out.rd
 clear D1 HD2 hr1 c0 c1 c2 c3 d0 d1 d2 d3 d4 d5 d6 d7 d8 d9 d10 sA HH HL
 go_wp2_with fail
 refine Calls.mono D2.out ?_
 rintro e w2 ⟨rfl,hb2⟩
 have HH2:=hid_of (HH1.out.keep hb2)
 have HL2:=hid_of (own_belL HL1.out hb2)
 have hv2:=HH2.out.v
 have f7:w2.frozen? ⟨w.heap.size+2,7,none⟩=false:=by simp [World.frozen?,hv2]
 obtain ⟨e0,e1,e2,e3,e4,e5,e6,e7,e8,e9,e10⟩:=elev hv2
 have HH3:Hid (Sm u rb w { x with n:=N } (.slice la x.d.labels.length lc) lv0 (cut10 T).2.1 (n+1) (w2.setCell ⟨w.heap.size+2,7,none⟩ (.int .u64 (N:Int)))):=HH2.out.set 7 _ rfl ⟨rfl,rfl,rfl⟩
 have HL3:Hid (La.OwnL w.heap.size (.slice la x.d.labels.length lc) x.d.labels (w2.setCell ⟨w.heap.size+2,7,none⟩ (.int .u64 (N:Int)))):=own_setG HL2.out (own_notype HL2.out hv2 val_ne) _
 clear D2 hb2 HH1 HL1 HH2 HL2 hv2
 go_wp2_with fail
 generalize w2.setCell ⟨w.heap.size+2,7,none⟩ (.int .u64 (N:Int))=w3 at *
 rw [spt5]
 refine wp_seq_k fun K hK=>?_
 clear e0 e1 e2 e3 e4 e5 e6 e7 e8 e9 e10 f7
 obtain ⟨d0,d1,d2,d3,d4,d5,d6,d7,d8,d9,d10⟩:=elev HH3.out.v
 dsimp only [sDrop,sFirst,bodyC,sB,Tryz.f137]
 go_wp2_with (go_at_call 29;refine Calls.mono (HYes.out _) ?_;rintro e w4 ⟨rfl,rfl⟩)
 refine wp_fr77 rfl ?_
 exact sum_fin u rb w _ { x with n:=N } _ lv0 _ _ _ rfl rfl HH3.out HL3.out HC.out
theorem Sm.qs {u:World} {rb:Nat} {w W:World} {x:Vl} {lv lv0:Value} {T:List UInt8} {n:Nat} (h:Sm u rb w x lv lv0 T n W):Qs u rb (w.heap.size+2) W x lv (.slice none 0 0) T n W:=by
 have lt:=h.lt
 have hlo:=h.rd.lo
 exact ⟨h.rd.at_,h.v,Chg.refl _ _,hlo,by omega,h.rd.st,by omega⟩
theorem Sm.of {u:World} {rb:Nat} {w W:World} {x:Vl} {lv lv0:Value} {T:List UInt8} {n:Nat} {x':Vl} {lv':Value} {T':List UInt8} {n':Nat} {W':World} (h:Sm u rb w x lv lv0 T n W) (k:Qs u rb (w.heap.size+2) W x' lv' (.slice none 0 0) T' n' W') (ed:x'.d.kind=x.d.kind∧x'.d.name=x.d.name∧x'.d.help=x.d.help):Sm u rb w x' lv' lv0 T' n' W':=by
 have lt:=h.lt
 refine ⟨⟨k.at_,h.rd.ch.trans k.ch (fun b e=>?_),h.rd.lo,k.st⟩,lt,?_,k.ch.at_ h.r (by omega),k.v⟩
 ·rcases e with e | e
  ·exact Or.inl e
  ·exact Or.inr (by omega)
 ·rw [ed.1,ed.2.1,ed.2.2]
  exact k.ch.at_ h.d (by omega)
theorem sum_some (u:World) (rb:Nat) (w W:World) (x:Vl) (lv0:Value) (A S z1 z2 b T T1 T2:List UInt8) (m1 m2 m3 n:Nat) (f:Nat→Value) (R:Ending→World→Prop) (hm:Mx u) (hT:T.length≤4194304) (hn:n≤4611686018427387900) (hN:x.d.name.length≤4194304) (hv:∀ q ∈ x.d.labels,q.2.length≤9223372036854775807) (hP:(La.printT (x.d.name++[95,115,117,109]) x.d.labels).length≤140737488355328)
  (h0:f 0=.pointer (some ⟨rb,0,none⟩)) (h3:f 3=.pointer (some ⟨w.heap.size,0,none⟩)) (h4:f 4=.pointer (some ⟨w.heap.size+1,0,none⟩)) (h5:f 5=.pointer (some ⟨w.heap.size+2,0,none⟩)) (h6:f 6=.bool false) (hH:Sm u rb w x lv0 lv0 T n W)
  (hM1:MoQ T A [48] z1 T1) (hp:Lib.hasPrefix A (x.d.name++[123])=true) (hS:Lib.trimPrefix A (x.d.name++[123])=S) (hO:othR x.d.name S=some x.d.labels) (hf1:RPf z1 m1) (hM2:MoQ T1 A [49] z2 T2) (hf2:RPf z2 m2)
  (hc:(cut10 T2).2.2=true) (hs:spl (cut10 T2).1=some (La.printT (x.d.name++[95,115,117,109]) x.d.labels,b)) (hf3:RPf b m3)
  (Hr:∀ (f':Nat→Value) (lv:Value) (W':World),f' 0=.pointer (some ⟨rb,0,none⟩)→f' 3=.pointer (some ⟨w.heap.size,0,none⟩)→f' 4=.pointer (some ⟨w.heap.size+1,0,none⟩)→f' 5=.pointer (some ⟨w.heap.size+2,0,none⟩)→f' 6=.bool false→Sm u rb w { x with sum:=m3,mn:=m1,mx:=m2 } lv lv0 (cut10 T2).2.1 (n+3) W'→La.OwnL w.heap.size lv x.d.labels W'→Code.wp Tryz.prog (sDrop 4 sB) (bodyPost Tryz.prog Tryz.f137 R) ⟨fr77 f',[]⟩ W') :
  Code.wp Tryz.prog (sDrop 3 sB) (bodyPost Tryz.prog Tryz.f137 R) ⟨fr77 f,[]⟩ W:=by
 have HR:Hid (∀ (a:Array Value) (lv:Value) (W':World),a.size=77→a.getD 0 (.bool false)=.pointer (some ⟨rb,0,none⟩)→a.getD 3 (.bool false)=.pointer (some ⟨w.heap.size,0,none⟩)→a.getD 4 (.bool false)=.pointer (some ⟨w.heap.size+1,0,none⟩)→a.getD 5 (.bool false)=.pointer (some ⟨w.heap.size+2,0,none⟩)→a.getD 6 (.bool false)=.bool false→Sm u rb w { x with sum:=m3,mn:=m1,mx:=m2 } lv lv0 (cut10 T2).2.1 (n+3) W'→La.OwnL w.heap.size lv x.d.labels W'→Code.wp Tryz.prog (sDrop 4 sB) (bodyPost Tryz.prog Tryz.f137 R) ⟨a,[]⟩ W'):=fun a lv W' e1 e2 e3 e4 e5 e6 e7 e8=>wp_fr77 e1 (Hr _ lv W' e2 e3 e4 e5 e6 e7 e8)
 have hl1:T1.length < T.length:=by rw [← hM1.2.2];exact cut_lt hM1.1
 have hl2:T2.length < T1.length:=by rw [← hM2.2.2];exact cut_lt hM2.1
 have D1:La.HidC _ _ _ _ _:=quantiles_ok u rb (w.heap.size+2) W x lv0 (.slice none 0 0) A S z1 z2 T T1 T2 m1 m2 n hm hT hn hN hH.qs hM1 hp hS hO hf1 hM2 hf2
 have HD2:Hid (∀ (lv:Value) (W':World),Sm u rb w { x with mn:=m1,mx:=m2 } lv lv0 T2 (n+2) W'→La.OwnL w.heap.size lv x.d.labels W'→_):=fun lv W' k1 k2=>(num_all hm x.d.labels hv).out T2 (x.d.name++[95,115,117,109]) b lv w.heap.size (n+2) W' k1.rd.re (by omega) (by omega) k2 hP hc hs
 have HD3:Hid (∀ W,Below u.heap.size u W→_):=fun W k=>float_ok rb b m3 hf3 W (hm.below k)
 have sA:∀ W,(Op.stringOp .add ⟨x.d.name.toArray⟩ ⟨#[95,115,117,109]⟩).run Tryz.prog W=.ok (.string ⟨(x.d.name++[95,115,117,109]).toArray⟩) W:=fun W=>La.sadd x.d.name [95,115,117,109] (by simp;omega) W
 have HH:=hid_of hH
 have HSz:Hid (w.heap.size≤W.heap.size):=hH.rd.ch.size
 have sF:=store_f
 rw [spt3]
 refine wp_seq_k fun K hK=>?_
 rw [fr77_lit,h0,h3,h4,h5,h6]
 clear h0 h3 h4 h5 h6 hH hm hT hn hN hv hP hM1 hp hS hO hf1 hM2 hf2 hc hs hf3 Hr hl1 hl2
 generalize x.d.name++[(95:UInt8),115,117,109]=V at *
 dsimp only [sDrop,sFirst,bodyC,sB,Tryz.f137]
 go_wp2_with fail
 refine Calls.mono D1.out ?_
 rintro e w1 ⟨rfl,lv,hq1,ho1⟩
 obtain ⟨la,lg,lc,rfl,-⟩:=own_form ho1
 have HH1:Hid (Sm u rb w { x with mn:=m1,mx:=m2 } (.slice la x.d.labels.length lc) lv0 T2 (n+2) w1):=HH.out.of hq1 ⟨rfl,rfl,rfl⟩
 have HL1:=hid_of (own_mono ho1 HSz.out)
 have D2:La.HidC _ _ _ _ _:=HD2.out _ w1 HH1.out HL1.out
 obtain ⟨c0,c1,c2,c3⟩:=four_cells HH1.out.d
 obtain ⟨d0,d1,d2,d3,d4,d5,d6,d7,d8,d9,d10⟩:=elev HH1.out.v
 clear D1 HD2 hq1 ho1 HH HSz
 go_wp2_with fail
 refine Calls.mono D2.out ?_
 rintro e w2 ⟨rfl,hr2⟩
 have HH2:=hid_of (HH1.out.called hr2)
 have HL2:=hid_of (HH1.out.own HL1.out hr2)
 clear D2 hr2 c0 c1 c2 c3 d0 d1 d2 d3 d4 d5 d6 d7 d8 d9 d10 sA HH1 HL1
 go_wp2_with fail
 refine Calls.mono (HD3.out _ HH2.out.rd.st) ?_
 rintro e w3 ⟨rfl,hb3⟩
 have HH3:=hid_of (HH2.out.keep hb3)
 have HL3:=hid_of (own_belL HL2.out hb3)
 have hv3:=HH3.out.v
 have f8:w3.frozen? ⟨w.heap.size+2,8,none⟩=false:=by simp [World.frozen?,hv3]
 obtain ⟨e0,e1,e2,e3,e4,e5,e6,e7,e8,e9,e10⟩:=elev hv3
 have HH4:Hid (Sm u rb w { x with sum:=m3,mn:=m1,mx:=m2 } (.slice la x.d.labels.length lc) lv0 (cut10 T2).2.1 (n+3) (w3.setCell ⟨w.heap.size+2,8,none⟩ (.float .f64 m3))):=HH3.out.set 8 _ rfl ⟨rfl,rfl,rfl⟩
 have HL4:Hid (La.OwnL w.heap.size (.slice la x.d.labels.length lc) x.d.labels (w3.setCell ⟨w.heap.size+2,8,none⟩ (.float .f64 m3))):=own_setG HL3.out (own_notype HL3.out hv3 val_ne) _
 clear HD3 hb3 HH2 HL2 HH3 HL3 hv3
 go_wp2_with fail
 exact HR.out _ _ _ rfl rfl rfl rfl rfl rfl HH4.out HL4.out
theorem sum_none (u:World) (rb:Nat) (w W:World) (x:Vl) (lv0:Value) (a S b T:List UInt8) (m3 n:Nat) (f:Nat→Value) (R:Ending→World→Prop) (hm:Mx u) (hT:T.length≤4194304) (hn:n≤4611686018427387900) (hN:x.d.name.length≤4194304)
  (h0:f 0=.pointer (some ⟨rb,0,none⟩)) (h3:f 3=.pointer (some ⟨w.heap.size,0,none⟩)) (h4:f 4=.pointer (some ⟨w.heap.size+1,0,none⟩)) (h5:f 5=.pointer (some ⟨w.heap.size+2,0,none⟩)) (h6:f 6=.bool true) (hH:Sm u rb w x lv0 lv0 T n W)
  (hc:(cut10 T).2.2=true) (hs:spl (cut10 T).1=some (a,b)) (hp:Lib.hasPrefix a (x.d.name++[95,115,117,109])=true) (hS:Lib.trimPrefix a (x.d.name++[95,115,117,109])=S) (hL:labR x.d.name (x.d.name++S)=some x.d.labels) (hf3:RPf b m3)
  (Hr:∀ (f':Nat→Value) (lv:Value) (W':World),f' 0=.pointer (some ⟨rb,0,none⟩)→f' 3=.pointer (some ⟨w.heap.size,0,none⟩)→f' 4=.pointer (some ⟨w.heap.size+1,0,none⟩)→f' 5=.pointer (some ⟨w.heap.size+2,0,none⟩)→f' 6=.bool true→Sm u rb w { x with sum:=m3 } lv lv0 (cut10 T).2.1 (n+1) W'→La.OwnL w.heap.size lv x.d.labels W'→Code.wp Tryz.prog (sDrop 4 sB) (bodyPost Tryz.prog Tryz.f137 R) ⟨fr77 f',[]⟩ W') :
  Code.wp Tryz.prog (sDrop 3 sB) (bodyPost Tryz.prog Tryz.f137 R) ⟨fr77 f,[]⟩ W:=by
 have HR:Hid (∀ (a:Array Value) (lv:Value) (W':World),a.size=77→a.getD 0 (.bool false)=.pointer (some ⟨rb,0,none⟩)→a.getD 3 (.bool false)=.pointer (some ⟨w.heap.size,0,none⟩)→a.getD 4 (.bool false)=.pointer (some ⟨w.heap.size+1,0,none⟩)→a.getD 5 (.bool false)=.pointer (some ⟨w.heap.size+2,0,none⟩)→a.getD 6 (.bool false)=.bool true→Sm u rb w { x with sum:=m3 } lv lv0 (cut10 T).2.1 (n+1) W'→La.OwnL w.heap.size lv x.d.labels W'→Code.wp Tryz.prog (sDrop 4 sB) (bodyPost Tryz.prog Tryz.f137 R) ⟨a,[]⟩ W'):=fun a lv W' e1 e2 e3 e4 e5 e6 e7 e8=>wp_fr77 e1 (Hr _ lv W' e2 e3 e4 e5 e6 e7 e8)
 have hal:a.length≤4194304:=by have:=(spl_le2 hs).1;have:=(cut_len T).1;omega
 have hSl:S.length≤4194304:=by have h3:=trim_len a (x.d.name++[95,115,117,109]);rw [hS] at h3;omega
 have D1:La.HidC _ _ _ _ _:=numbered_any u rb T n W W hH.rd.re hm hT (by omega)
 have HBe:Hid (∀ (w1 W':World),Sm u rb w x lv0 lv0 (cut10 T).2.1 (n+1) w1→Below w1.heap.size w1 W'→Calls Tryz.prog 27 #[.pointer (some ⟨rb,0,none⟩),.string ⟨a.toArray⟩,.string ⟨(x.d.name++[95,115,117,109]).toArray⟩] W' fun e w'=>e=.returned (.string ⟨S.toArray⟩)∧w'=W'):=fun w1 W' k hb=>by
  refine Calls.mono (behind_any u rb _ a (x.d.name++[95,115,117,109]) (n+1) w W' (k.keep hb).rd) ?_
  rintro e w' ⟨q0,⟨_,q1⟩ | ⟨q1,_⟩⟩
  ·rw [hS] at q1;exact ⟨q1,q0⟩
  ·rw [hp] at q1;cases q1
 have HLe:Hid (∀ (w1 W':World),Sm u rb w x lv0 lv0 (cut10 T).2.1 (n+1) w1→Below w1.heap.size w1 W'→Calls Tryz.prog 165 #[.pointer (some ⟨rb,0,none⟩),.string ⟨x.d.name.toArray⟩,.string ⟨(x.d.name++S).toArray⟩] W' fun e w'=>∃ la lc,e=.returned (.slice la x.d.labels.length lc)∧Hid (Sm u rb w x lv0 lv0 (cut10 T).2.1 (n+1) w'∧La.OwnL w.heap.size (.slice la x.d.labels.length lc) x.d.labels w')):=fun w1 W' k hb=>by
  have k2:=k.keep hb
  refine Calls.mono (labels_any u rb _ x.d.name (x.d.name++S) (n+1) w W' k2.rd (by simp;omega)) ?_
  rintro e w' ⟨q0,⟨L',v,q1,rfl,q3⟩ | ⟨q1,_⟩⟩
  ·rw [hL] at q1
   cases q1
   obtain ⟨la,lg,lc,rfl,-⟩:=own_form q3
   exact ⟨la,lc,rfl,k2.keep q0,own_mono q3 k2.rd.ch.size⟩
  ·rw [hL] at q1;cases q1
 have HD3:Hid (∀ W,Below u.heap.size u W→_):=fun W k=>float_ok rb b m3 hf3 W (hm.below k)
 have sA:∀ W,(Op.stringOp .add ⟨x.d.name.toArray⟩ ⟨#[95,115,117,109]⟩).run Tryz.prog W=.ok (.string ⟨(x.d.name++[95,115,117,109]).toArray⟩) W:=fun W=>La.sadd x.d.name [95,115,117,109] (by simp;omega) W
 have sB2:∀ W,(Op.stringOp .add ⟨x.d.name.toArray⟩ ⟨S.toArray⟩).run Tryz.prog W=.ok (.string ⟨(x.d.name++S).toArray⟩) W:=fun W=>La.sadd x.d.name S (by omega) W
 have HH:=hid_of hH
 have HSp:=hid_of (⟨hc,hs⟩:_∧_)
 have sF:=store_f
 rw [spt3]
 refine wp_seq_k fun K hK=>?_
 rw [fr77_lit,h0,h3,h4,h5,h6]
 clear h0 h3 h4 h5 h6 hH hm hT hn hN hc hs hp hS hL hf3 Hr hal hSl
 generalize x.d.name++[(95:UInt8),115,117,109]=V at *
 generalize x.d.name++S=Z at *
 dsimp only [sDrop,sFirst,bodyC,sB,Tryz.f137]
 go_wp2_with fail
 refine Calls.mono D1.out ?_
 rintro e w1 (⟨a',b',k1,k2,rfl,hr⟩ | ⟨k1,k2,-,-⟩ | ⟨k1,-,-⟩)
 ·rw [HSp.out.2] at k2
  cases k2
  have HH1:=hid_of (HH.out.called hr)
  have HB2:Hid (∀ W',Below w1.heap.size w1 W'→_):=fun W' hb=>HBe.out w1 W' HH1.out hb
  have HL2:Hid (∀ W',Below w1.heap.size w1 W'→_):=fun W' hb=>HLe.out w1 W' HH1.out hb
  obtain ⟨c0,c1,c2,c3⟩:=four_cells HH1.out.d
  clear D1 k1 hr HH HBe HLe HSp
  go_upto_region 7 with fail
  go_region_law
   (first
    | (rw [if_pos (by simp [Region.wanted])];go_simp;with_reducible refine Calls.mono (HB2.out _ (by first | exact Below.refl _ _ | exact (Below.refl _ _).drew)) ?_;rintro e w3 ⟨rfl,rfl⟩;simp only [])
    | (rw [if_pos (by simp [Region.wanted])];go_simp;with_reducible refine Calls.mono (HL2.out _ (by first | exact Below.refl _ _ | exact (Below.refl _ _).drew)) ?_;rintro e w5 ⟨la,lc,rfl,H5⟩;have hv5:=H5.out.1.v;obtain ⟨y0,y1,y2,y3,y4,y5,y6,y7,y8,y9,y10⟩:=elev hv5;have fz:w5.frozen? ⟨w.heap.size+2,3,none⟩=false:=(by simp [World.frozen?,hv5]);simp only []))
  all_goals
   have HH6:Hid (Sm u rb w x (.slice la x.d.labels.length lc) lv0 (cut10 T).2.1 (n+1) (w5.setCell ⟨w.heap.size+2,3,none⟩ (.slice la x.d.labels.length lc))):=H5.out.1.set 3 _ rfl ⟨rfl,rfl,rfl⟩
   have HL6:Hid (La.OwnL w.heap.size (.slice la x.d.labels.length lc) x.d.labels (w5.setCell ⟨w.heap.size+2,3,none⟩ (.slice la x.d.labels.length lc))):=own_setG H5.out.2 (own_notype H5.out.2 hv5 val_ne) _
   clear H5 hv5 y0 y1 y2 y3 y4 y5 y6 y7 y8 y9 y10 fz c0 c1 c2 c3 HB2 HL2 HH1 sA sB2
   generalize w5.setCell ⟨w.heap.size+2,3,none⟩ (.slice la x.d.labels.length lc)=w6 at *
   go_wp2_with fail
   refine Calls.mono (HD3.out _ HH6.out.rd.st) ?_
   rintro e w7 ⟨rfl,hb7⟩
   have HH7:=hid_of (HH6.out.keep hb7)
   have HL7:=hid_of (own_belL HL6.out hb7)
   have hv7:=HH7.out.v
   have f8:w7.frozen? ⟨w.heap.size+2,8,none⟩=false:=by simp [World.frozen?,hv7]
   obtain ⟨e0,e1,e2,e3,e4,e5,e6,e7,e8,e9,e10⟩:=elev hv7
   have HH8:Hid (Sm u rb w { x with sum:=m3 } (.slice la x.d.labels.length lc) lv0 (cut10 T).2.1 (n+1) (w7.setCell ⟨w.heap.size+2,8,none⟩ (.float .f64 m3))):=HH7.out.set 8 _ rfl ⟨rfl,rfl,rfl⟩
   have HL8:Hid (La.OwnL w.heap.size (.slice la x.d.labels.length lc) x.d.labels (w7.setCell ⟨w.heap.size+2,8,none⟩ (.float .f64 m3))):=own_setG HL7.out (own_notype HL7.out hv7 val_ne) _
   clear HD3 hb7 HH6 HL6 HH7 HL7 hv7
   go_wp2_with fail
   exact HR.out _ _ _ rfl rfl rfl rfl rfl rfl HH8.out HL8.out
 ·rw [HSp.out.2] at k2;cases k2
 ·rw [HSp.out.1] at k1;cases k1
end Go.Proofs.YtfkbjdgbpenflaaGreatDoor.Sc
