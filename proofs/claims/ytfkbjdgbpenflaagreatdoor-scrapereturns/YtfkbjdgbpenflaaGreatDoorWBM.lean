/- THE READER: a series. Own work of the verifier. -/
import Derived.Test.YtfkbjdgbpenflaaGreatDoorWBK
import Derived.Test.YtfkbjdgbpenflaaGreatDoorWBL
set_option maxRecDepth 100000
set_option maxHeartbeats 8000000
namespace Go.Proofs.YtfkbjdgbpenflaaGreatDoor.Sc
open Go.RowKit Me
theorem series_all (u:World) (rb sb B p:Nat) (r:Nat) (v:Value) (R:List Rv) (x:Vl) (T T':List UInt8) (n kk:Nat) (w:World) (h:Ss u rb sb B p r v R T n w) (hm:Mx u) (ht:Wi.Tab u) (hp1:1≤p) (hp2:p≤14) (hT:T.length≤4194304) (hn:n+x.cs.length≤4611686018427387000) (hw:VaW x) (hR:VaR p x T T' kk) (hl:R.length < 256) (hx:VW x) (hz:lstE ⟨p,R.map (·.1)++[x],r⟩=0) :
  Calls Tryz.prog 58 #[.pointer (some ⟨rb,0,none⟩),.pointer (some ⟨sb,0,none⟩),.agg (d4 x.d.kind x.d.name x.d.help (.slice none 0 0))] w fun e w'=>e=.returned (.tuple #[])∧∃ v' l' c',Ss u rb sb B p r v' (R++[(x,l',c')]) T' (n+kk) w'∧Chg (fun b=>b=rb∨b=sb∨v.ownBlock=some b) w w':=by
 obtain ⟨W0,hW0⟩:∃ W0,W0=w.alloc (.cells (d4 x.d.kind x.d.name x.d.help (.slice none 0 0)) 41):=⟨_,rfl⟩
 have hb0:Below w.heap.size w W0:=by rw [hW0];exact bel1 _ _
 have hN:W0.heap[w.heap.size]? =some (.cells (d4 x.d.kind x.d.name x.d.help (.slice none 0 0)) 41):=by rw [hW0];exact new_1 w _
 have h0:=h.keep hb0
 obtain ⟨va,vg,vcap,rfl,-⟩:=own_slice h.own
 obtain ⟨c0,c1,-,-⟩:=h0.rd.cells
 obtain ⟨s0,s1,s2,sf⟩:=three_cells h0.sn
 obtain ⟨d0,d1,d2,d3⟩:=four_cells hN
 have HV:Hid (∀ W,Below W0.heap.size W0 W→Calls Tryz.prog 96 #[.pointer (some ⟨rb,0,none⟩),.int .i64 (p:Int),.agg (d4 x.d.kind x.d.name x.d.help (.slice none 0 0))] W fun e w'=>∃ la lc ca cc,e=.returned (.agg (vc x (.slice la x.d.labels.length lc) (.slice ca x.cs.length cc)))∧Hid (Ss u rb sb B p r (.slice va R.length vcap) R T' (n+kk) w'∧(La.OwnL B (.slice la x.d.labels.length lc) x.d.labels w'∧OwC B (.slice ca x.cs.length cc) x.cs w')∧Chg (fun b=>b=rb) W0 w')):=fun W hW=>by
  have hS:=h0.keep hW
  refine Calls.mono (value_all u rb p x T T' kk n W hS.rd hm ht hp1 hp2 hT hn hw hR) ?_
  rintro e w' ⟨lv,cv,rfl,q1,q2,q3⟩
  obtain ⟨la,g,lc,rfl,-⟩:=own_form q2
  obtain ⟨ca,cg,cc,rfl,-⟩:=own_slice q3
  exact ⟨la,lc,ca,cc,rfl,hS.called q1,⟨own_mono q2 hS.sz,own_leG q3 hS.sz⟩,(Chg.of_below hW).trans q1.ch (fun x e=>Or.inl e)⟩
 have HS0:=hid_of h0
 have HW0:=hid_of hW0
 have HB0:=hid_of hb0
 have HZ:=hid_of hz
 have HX:=hid_of hx
 have HL:=hid_of hl
 clear h hm ht hp1 hp2 hT hw hR hW0 hb0 hN h0 hz hx hl hn
 go_enter Tryz.func58,Tryz.ntmps58
 go_upto_region 1 with fail
 rw [← HW0.out]
 clear HW0
 go_upto_region 2 with fail
 go_region_law
  (first
   | (rw [if_pos (by simp [Region.wanted])];go_simp;with_reducible refine Calls.mono (HV.out _ (by first | exact Below.refl _ _ | exact (Below.refl _ _).drew)) ?_;rintro e w3 ⟨la,lc,ca,cc,rfl,H3⟩;obtain ⟨q0,q1,q2,qf⟩:=three_cells H3.out.1.sn;obtain ⟨x0,x1,x2,xf⟩:=three_cells (hkN' H3.out.1.sn (bel1 w3 (.cells #[.int .i64 x.d.kind,.string ⟨x.d.name.toArray⟩,.string ⟨x.d.help.toArray⟩,.slice la x.d.labels.length lc,.int .i64 (hiOf x.t),.int .u64 (loOf x.t),.slice ca x.cs.length cc,.int .u64 (x.n:Int),.float .f64 x.sum,.float .f64 x.mn,.float .f64 x.mx] 45)));simp only [])
   | (refine step_sv (by rfl) _ _ (by rfl) (v:=.slice va R.length vcap) (by rfl) (own_belG H3.out.1.own (bel1 _ _)) (by have:=H3.out.1.sz;simp;omega) (by have:=HL.out;omega) w3.heap.size (by rfl) (x,.slice la x.d.labels.length lc,.slice ca x.cs.length cc) (by intro q hq;rw [List.mem_singleton] at hq;subst hq;exact ⟨rfl,rfl⟩) (new_1 w3 _) ?_;intro g6 k6 w6 hown hgr;obtain ⟨z0,z1,z2,zf⟩:=three_cells (H3.out.1.at6 (bel1 _ _) hgr)))
 all_goals
  obtain ⟨hS7,hC7⟩:=Ss.push (q:=(x,.slice la x.d.labels.length lc,.slice ca x.cs.length cc)) (H3.out.1.keep (bel1 w3 _)) (own_belG H3.out.2.1.1 (bel1 w3 _)) (own_belG H3.out.2.1.2 (bel1 w3 _)) HX.out hown hgr
  have hC:Chg (fun b=>b=rb∨b=sb∨(Value.slice va R.length vcap).ownBlock=some b) w (w6.setCell ⟨sb,1,none⟩ (.slice (some ⟨g6,0,none⟩) (R.length+1) k6)):=((Chg.of_below (bt HB0.out (Below.refl _ _))).trans H3.out.2.2 (fun x e=>Or.inl (Or.inl e))).trans ((Chg.of_below (S:=fun b=>b=sb∨(Value.slice va R.length vcap).ownBlock=some b) (bel1 w3 _)).trans hC7 (fun x e=>Or.inl e)) (fun x e=>Or.inl (Or.inr e))
  have HS7:=hid_of hS7
  have HC7:=hid_of hC
  have HLs:La.HidC _ _ _ _ _:=hS7.last HL.out HZ.out
  obtain ⟨k0,k1,k2,-⟩:=three_cells hS7.sn
  clear hS7 hC7 hC hown hgr z0 z1 z2 zf q0 q1 q2 qf x0 x1 x2 xf s0 s1 s2 sf d0 d1 d2 d3 c0 c1 HV H3 HS0 HB0 HZ HX HL
  generalize w6.setCell ⟨sb,1,none⟩ (.slice (some ⟨g6,0,none⟩) (R.length+1) k6)=w7 at *
  go_wp2_with fail
  refine Calls.mono HLs.out ?_
  rintro e w8 ⟨rfl,hb8⟩
  have HB8:=hid_of hb8
  clear HLs hb8 k0 k1 k2
  go_wp2_with fail
  go_end0
  exact ⟨rfl,_,_,_,HS7.out.keep HB8.out,HC7.out.trans (Chg.of_below HB8.out) (fun x e=>Or.inl e)⟩
abbrev heP:List UInt8:=[35,32,72,69,76,80,32]
def SeL (p:Nat) (d:La.Ds):List Vl→List UInt8→List UInt8→Nat→Prop
 | [],T,T',k=>T=T'∧k=0∧(T=[]∨Lib.hasPrefix T heP=true)
 | x::xs,T,T',k=>T≠[]∧Lib.hasPrefix T heP=false∧(x.d.kind=d.kind∧x.d.name=d.name∧x.d.help=d.help)∧∃ T1 k1 k2,VaR p x T T1 k1∧T1.length < T.length∧SeL p d xs T1 T' k2∧k=k1+k2
structure AlW (p r:Nat) (L xs:List Vl) (n:Nat):Prop where
 w:∀ x ∈ xs,VaW x∧VW x∧x.cs.length≤1048576
 z:∀ i (_h:i < xs.length),lstE ⟨p,L++xs.take (i+1),r⟩=0
 c:L.length+xs.length≤256
 n:n≤4611686018400000000
theorem AlW.tail {p r:Nat} {L:List Vl} {x:Vl} {xs:List Vl} {n n':Nat} (h:AlW p r L (x::xs) n) (hn:n'≤4611686018400000000):AlW p r (L++[x]) xs n':=by
 refine ⟨fun y hy=>h.w y (List.mem_cons_of_mem _ hy),fun i hi=>?_,by have:=h.c;simp at this ⊢;omega,hn⟩
 have:=h.z (i+1) (by simpa using hi)
 simpa using this
theorem AlW.head {p r:Nat} {L:List Vl} {x:Vl} {xs:List Vl} {n:Nat} (h:AlW p r L (x::xs) n):lstE ⟨p,L++[x],r⟩=0:=by
 have:=h.z 0 (by simp)
 simpa using this
noncomputable abbrev fB:Code:=bodyC Tryz.f30.body
def fr58 (f:Nat→Value):Array Value:=((List.range 58).map f).toArray
theorem fr58_lit (f:Nat→Value):fr58 f=#[f 0,f 1,f 2,f 3,f 4,f 5,f 6,f 7,f 8,f 9,f 10,f 11,f 12,f 13,f 14,f 15,f 16,f 17,f 18,f 19,f 20,f 21,f 22,f 23,f 24,f 25,f 26,f 27,f 28,f 29,f 30,f 31,f 32,f 33,f 34,f 35,f 36,f 37,f 38,f 39,f 40,f 41,f 42,f 43,f 44,f 45,f 46,f 47,f 48,f 49,f 50,f 51,f 52,f 53,f 54,f 55,f 56,f 57]:=rfl
theorem fr58_to (a:Array Value) (h:a.size=58):a=fr58 (fun i=>a.getD i (.bool false)):=by
 apply Array.ext
 ·simp [fr58,h]
 ·intro i h1 h2
  simp [fr58,Array.getD,h1]
theorem wp_fr58 {c:Code} {Q:Exit→Act→World→Prop} {a:Array Value} {W:World} (h:a.size=58) (k:Code.wp Tryz.prog c Q ⟨fr58 (fun i=>a.getD i (.bool false)),[]⟩ W):Code.wp Tryz.prog c Q ⟨a,[]⟩ W:=by
 rw [← fr58_to a h] at k
 exact k
theorem fpt0:sDrop 0 fB=.seq (sFirst (sDrop 0 fB)) (sDrop 1 fB):=by kernel_rfl
theorem fpt1:sDrop 1 fB=.seq (sFirst (sDrop 1 fB)) (sDrop 2 fB):=by kernel_rfl
theorem fpt2:sDrop 2 fB=.seq (sFirst (sDrop 2 fB)) (sDrop 3 fB):=by kernel_rfl
theorem fpt3:sDrop 3 fB=.seq (sFirst (sDrop 3 fB)) (sDrop 4 fB):=by kernel_rfl
theorem fpt4:sDrop 4 fB=.seq (sFirst (sDrop 4 fB)) (sDrop 5 fB):=by kernel_rfl
theorem types_dv:(45:TypeId)≠41:=by decide
theorem ser_step (u:World) (rb sb B p r db:Nat) (d:La.Ds) (hm:Mx u) (ht:Wi.Tab u) (hp1:1≤p) (hp2:p≤14) (hdr:db≠rb) (hds:db≠sb) (x:Vl) (xs:List Vl) (v:Value) (R:List Rv) (T T1:List UInt8) (n k1:Nat) (W:World) (hS:Ss u rb sb B p r v R T n W) (hD:W.heap[db]? =some (.cells (d4 d.kind d.name d.help (.slice none 0 0)) 41)) (hT:T.length≤4194304) (ed:x.d.kind=d.kind∧x.d.name=d.name∧x.d.help=d.help) (hA:AlW p r (R.map (·.1)) (x::xs) n) (hV:VaR p x T T1 k1) :
  Calls Tryz.prog 58 #[.pointer (some ⟨rb,0,none⟩),.pointer (some ⟨sb,0,none⟩),.agg (d4 d.kind d.name d.help (.slice none 0 0))] W fun e w'=>e=.returned (.tuple #[])∧∃ v' q,q.1=x∧Ss u rb sb B p r v' (R++[q]) T1 (n+k1) w'∧w'.heap[db]? =some (.cells (d4 d.kind d.name d.help (.slice none 0 0)) 41)∧Chg (fun b=>b=rb∨b=sb∨B≤b) W w':=by
 obtain ⟨w1,w2,w3⟩:=hA.w x List.mem_cons_self
 have hc:=hA.c
 have hn:=hA.n
 have:=series_all u rb sb B p r v R x T T1 n k1 W hS hm ht hp1 hp2 hT (by omega) w1 hV (by simp at hc;omega) w2 hA.head
 rw [ed.1,ed.2.1,ed.2.2] at this
 refine Calls.mono this ?_
 rintro e w' ⟨rfl,v',l',c',k1,k2⟩
 refine ⟨rfl,v',(x,l',c'),rfl,k1,k2.at_ hD (fun q=>?_),⟨k2.os,k2.tape,k2.output,k2.size,fun j hj hn=>k2.block j hj (fun q=>hn ?_)⟩⟩
 ·rcases q with q | q | q
  ·exact hdr q
  ·exact hds q
  ·exact own_notype hS.own hD types_dv q
 ·rcases q with q | q | q
  ·exact Or.inl q
  ·exact Or.inr (Or.inl q)
  ·rcases own_atG hS.own with c | ⟨g,c,c1,_⟩
   ·rw [c] at q;cases q
   ·rw [c] at q;cases q;exact Or.inr (Or.inr c1)
theorem fam_loop (u:World) (rb sb B p r db:Nat) (d:La.Ds) (hm:Mx u) (ht:Wi.Tab u) (hp1:1≤p) (hp2:p≤14) (hdr:db≠rb) (hds:db≠sb) (xs0:List Vl) (v0:Value) (R0:List Rv) (T0 T':List UInt8) (n0 k0:Nat) (W:World) (f:Nat→Value) (hT:T0.length≤4194304) (hN:n0+k0≤4611686018400000000)
  (h0:f 0=.pointer (some ⟨rb,0,none⟩)) (h1:f 1=.pointer (some ⟨sb,0,none⟩)) (h4:f 4=.pointer (some ⟨db,0,none⟩))
  (hS:Ss u rb sb B p r v0 R0 T0 n0 W) (hD:W.heap[db]? =some (.cells (d4 d.kind d.name d.help (.slice none 0 0)) 41)) (hA:AlW p r (R0.map (·.1)) xs0 n0) (hL:SeL p d xs0 T0 T' k0) (Z:Ending→World→Prop) (hZ:∀ v' R' w',R'.map (·.1)=xs0→Ss u rb sb B p r v' (R0++R') T' (n0+k0) w'→Chg (fun b=>b=rb∨b=sb∨B≤b) W w'→Z (.returned (.tuple #[])) w') :
  Code.wp Tryz.prog (sDrop 5 fB) (bodyPost Tryz.prog Tryz.f30 Z) ⟨fr58 f,[]⟩ W:=by
 have HSt:Hid (∀ (x:Vl) (xs:List Vl) (v:Value) (R:List Rv) (T T1:List UInt8) (n k1:Nat) (W:World),_):=ser_step u rb sb B p r db d hm ht hp1 hp2 hdr hds
 have HPx:Hid (∀ (T:List UInt8) (W:World),Calls Tryz.prog 59 #[.string ⟨T.toArray⟩,.string ⟨#[35,32,72,69,76,80,32]⟩] W fun e w'=>e=.returned (.bool (Lib.hasPrefix T heP))∧w'=W):=fun T W=>Tryz.strings_HasPrefix ⟨T.toArray⟩ ⟨#[35,32,72,69,76,80,32]⟩ W
 have HI0:Hid (Ss u rb sb B p r v0 R0 T0 n0 W∧W.heap[db]? =some (.cells (d4 d.kind d.name d.help (.slice none 0 0)) 41)∧AlW p r (R0.map (·.1)) xs0 n0∧SeL p d xs0 T0 T' k0∧T0.length≤4194304):=⟨hS,hD,hA,hL,hT⟩
 have HN:=hid_of hN
 have HZ:=hid_of hZ
 obtain ⟨WW,hWW⟩:∃ WW,WW=W:=⟨_,rfl⟩
 have HC0:Hid (Chg (fun b=>b=rb∨b=sb∨B≤b) WW W):=by rw [hWW];exact Chg.refl _ _
 rw [← hWW] at HZ
 rw [fr58_lit,h0,h1,h4]
 clear h0 h1 h4 hS hD hA hL hT hm ht hdr hds hN hZ hWW
 dsimp only [sDrop,sFirst,bodyC,fB,Tryz.f30]
 go_upto_region 5 with fail
 go_loopw [] (fun W=>∃ (xs:List Vl) (R':List Rv) (v:Value) (T:List UInt8) (n k:Nat),Hid (xs0=R'.map (·.1)++xs)∧Hid (n+k=n0+k0)∧Hid (Ss u rb sb B p r v (R0++R') T n W∧W.heap[db]? =some (.cells (d4 d.kind d.name d.help (.slice none 0 0)) 41)∧AlW p r ((R0++R').map (·.1)) xs n∧SeL p d xs T T' k∧T.length≤4194304)∧Hid (Chg (fun b=>b=rb∨b=sb∨B≤b) WW W)) (fun W=>mzR rb W)
 case atStart=>exact ⟨xs0,[],v0,T0,n0,k0,rfl,rfl,by unfold Hid;rw [List.append_nil];exact HI0.out,HC0⟩
 case round =>
  clear HI0 HC0
  obtain ⟨xs,R',v,T,n,k,HX,HK,HI,HC⟩:=hrel
  obtain ⟨c0,c1,-,-⟩:=HI.out.1.rd.cells
  cases xs with
  | nil =>
   obtain ⟨l1,l2,l3⟩:=HI.out.2.2.2.1
   have HF:Hid (Z (.returned (.tuple #[])) wr):=by
    refine HZ.out v R' wr ?_ ?_ HC.out
    ·rw [HX.out,List.append_nil]
    ·rw [← HK.out,l2,← l1]
     exact HI.out.1
   by_cases hT0:T=[]
   ·subst hT0
    clear HSt HPx HI HX HK HN HZ l1 l2 l3
    go_wp2_with fail
    go_end0
    exact HF.out
   ·have hb:(T == [])=false:=beq_eq_false_iff_ne.2 hT0
    have hb2:(T != [])=true:=by simp [hT0]
    have hpt:Lib.hasPrefix T heP=true:=by
     rcases l3 with q | q
     ·exact absurd q hT0
     ·exact q
    have HP:=hid_of (HPx.out T)
    rw [hpt] at HP
    clear HSt HPx HI HX HK HN HZ l1 l2 l3 hpt hT0
    go_wp2_with fail
    refine Calls.mono (HP.out _) ?_
    rintro e w3 ⟨rfl,rfl⟩
    go_wp2_with fail
    go_end0
    exact HF.out
  | cons x xs =>
   obtain ⟨l1,l2,l3,T1,k1,k2,l4,l5,l6,l7⟩:=HI.out.2.2.2.1
   have hb:(T == [])=false:=beq_eq_false_iff_ne.2 l1
   have hb2:(T != [])=true:=by simp [l1]
   have HP:=hid_of (HPx.out T)
   rw [l2] at HP
   have D2:La.HidC _ _ _ _ _:=HSt.out x xs v (R0++R') T T1 n k1 wr HI.out.1 HI.out.2.1 HI.out.2.2.2.2 l3 HI.out.2.2.1 l4
   obtain ⟨d0,d1,d2,d3⟩:=four_cells HI.out.2.1
   have HL6:=hid_of (⟨l5,l6,l7⟩:_∧_∧_)
   clear HSt HPx l1 l2 l3 l4 l5 l6 l7
   go_wp2_with fail
   refine Calls.mono (HP.out _) ?_
   rintro e w3 ⟨rfl,rfl⟩
   go_wp2_with fail
   refine Calls.mono D2.out ?_
   rintro e w4 ⟨rfl,v',q,hq,hS',hD',hC'⟩
   have HS4:=hid_of hS'
   have HD4:=hid_of hD'
   have HC4:=hid_of hC'
   clear D2 hS' hD' hC'
   go_wp2_with fail
   refine ⟨⟨xs,R'++[q],v',T1,n+k1,k2,?_,?_,?_,HC.out.trans HC4.out (fun b e=>Or.inl e)⟩,?_⟩
   ·unfold Hid
    rw [HX.out,List.map_append,List.append_assoc]
    simp [hq]
   ·have e1:=HK.out
    have e2:=HL6.out.2.2
    unfold Hid
    omega
   ·refine ⟨by rw [← List.append_assoc];exact HS4.out,HD4.out,?_,HL6.out.2.1,?_⟩
    ·have:=HI.out.2.2.1.tail (n':=n+k1) (by have e1:=HK.out;have e2:=HL6.out.2.2;have:=HN.out;omega)
     rw [← List.append_assoc,List.map_append]
     simpa [hq] using this
    ·have:=HL6.out.1
     have:=HI.out.2.2.2.2
     omega
   ·rw [HS4.out.rd.mz,HI.out.1.rd.mz]
    exact HL6.out.1
theorem fam_name0 (u:World) (rb sb B p r db:Nat) (d:La.Ds) (v:Value) (T:List UInt8) (n:Nat) (W:World) (f:Nat→Value) (Z:Ending→World→Prop)
  (h0:f 0=.pointer (some ⟨rb,0,none⟩)) (h1:f 1=.pointer (some ⟨sb,0,none⟩)) (h4:f 4=.pointer (some ⟨db,0,none⟩)) (h5:f 5=.int .i64 0) (hS:Ss u rb sb B p r v [] T n W) (hD:W.heap[db]? =some (.cells (d4 d.kind d.name d.help (.slice none 0 0)) 41))
  (Hr:∀ (f':Nat→Value) (W':World),f' 0=.pointer (some ⟨rb,0,none⟩)→f' 1=.pointer (some ⟨sb,0,none⟩)→f' 4=.pointer (some ⟨db,0,none⟩)→Ss u rb sb B p r v [] T n W'→W'.heap[db]? =some (.cells (d4 d.kind d.name d.help (.slice none 0 0)) 41)→Below W.heap.size W W'→Code.wp Tryz.prog (sDrop 3 fB) (bodyPost Tryz.prog Tryz.f30 Z) ⟨fr58 f',[]⟩ W') :
  Code.wp Tryz.prog (sDrop 2 fB) (bodyPost Tryz.prog Tryz.f30 Z) ⟨fr58 f,[]⟩ W:=by
 have HYes:=must_all rb
 have HS:=hid_of hS
 have HD:=hid_of hD
 have HR:Hid (∀ (a:Array Value) (W':World),a.size=58→a.getD 0 (.bool false)=.pointer (some ⟨rb,0,none⟩)→a.getD 1 (.bool false)=.pointer (some ⟨sb,0,none⟩)→a.getD 4 (.bool false)=.pointer (some ⟨db,0,none⟩)→Ss u rb sb B p r v [] T n W'→W'.heap[db]? =some (.cells (d4 d.kind d.name d.help (.slice none 0 0)) 41)→Below W.heap.size W W'→Code.wp Tryz.prog (sDrop 3 fB) (bodyPost Tryz.prog Tryz.f30 Z) ⟨a,[]⟩ W'):=fun a W' e1 e2 e3 e4 e5 e6 e7=>wp_fr58 e1 (Hr _ W' e2 e3 e4 e5 e6 e7)
 rw [fpt2]
 refine wp_seq_k fun K hK=>?_
 rw [fr58_lit,h0,h1,h4,h5]
 clear h0 h1 h4 h5 hS hD Hr
 dsimp only [sDrop,sFirst,bodyC,fB,Tryz.f30]
 refine wp_region_held_drew (S:=fun W'=>Below W.heap.size W W') (by kernel_rfl) ((Below.refl _ _).drew) (fun hHeld=>?_)
 refine wpAnyH_take (i:=0) (v:=?va0) rfl (by kernel_rfl) (by kernel_rfl) (by kernel_rfl) (fun _ _ _ h=>h) (Or.inl ⟨by rfl,?hya0⟩) hHeld ?resta0
 case hya0=>(intro w hSw;(try dsimp only at hSw);go_simp;try with_reducible rfl)
 try simp only [Act.put,List.getElem_cons_zero,List.getElem_toArray,List.setIfInBounds_toArray,List.set_cons_zero,List.set_cons_succ]
 refine wpAnyH_take (i:=1) (v:=?va1) rfl (by kernel_rfl) (by kernel_rfl) (by kernel_rfl) (fun _ _ _ h=>h) (Or.inl ⟨by rfl,?hya1⟩) hHeld ?resta1
 case hya1=>(intro w hSw;(try dsimp only at hSw);go_simp;try with_reducible rfl)
 try simp only [Act.put,List.getElem_cons_succ,List.getElem_cons_zero,List.getElem_toArray,List.setIfInBounds_toArray,List.set_cons_zero,List.set_cons_succ]
 refine wpAnyH_take (i:=2) (v:=?va2) rfl (by kernel_rfl) (by kernel_rfl) (by kernel_rfl) (fun _ _ _ h=>h) (Or.inl ⟨by rfl,?hya2⟩) hHeld ?resta2
 case hya2=>(intro w hSw;(try dsimp only at hSw);go_simp;try with_reducible rfl)
 try simp only [Act.put,List.getElem_cons_succ,List.getElem_cons_zero,List.getElem_toArray,List.setIfInBounds_toArray,List.set_cons_zero,List.set_cons_succ]
 refine wpAnyH_take (i:=3) (v:=?va3) rfl (by kernel_rfl) (by kernel_rfl) (by kernel_rfl) (fun _ _ _ h=>h) (Or.inl ⟨by rfl,?hya3⟩) hHeld ?resta3
 case hya3=>(intro w hSw;(try dsimp only at hSw);go_simp;try with_reducible rfl)
 try simp only [Act.put,List.getElem_cons_succ,List.getElem_cons_zero,List.getElem_toArray,List.setIfInBounds_toArray,List.set_cons_zero,List.set_cons_succ]
 refine wpAnyH_take (i:=4) (v:=undef) rfl (by kernel_rfl) (by kernel_rfl) (by kernel_rfl) (fun _ _ _ h=>h) (Or.inr ⟨by rfl,rfl⟩) hHeld ?_
 try simp only [Act.put,List.getElem_cons_succ,List.getElem_cons_zero,List.getElem_toArray,List.setIfInBounds_toArray,List.set_cons_zero,List.set_cons_succ]
 refine wpAnyH_take (i:=5) (v:=undef) rfl (by kernel_rfl) (by kernel_rfl) (by kernel_rfl) (fun _ _ _ h=>h) (Or.inr ⟨by rfl,rfl⟩) hHeld ?_
 try simp only [Act.put,List.getElem_cons_succ,List.getElem_cons_zero,List.getElem_toArray,List.setIfInBounds_toArray,List.set_cons_zero,List.set_cons_succ]
 refine wpAnyH_take (i:=6) (v:=undef) rfl (by kernel_rfl) (by kernel_rfl) (by kernel_rfl) (fun _ _ _ h=>h) (Or.inr ⟨by rfl,rfl⟩) hHeld ?_
 try simp only [Act.put,List.getElem_cons_succ,List.getElem_cons_zero,List.getElem_toArray,List.setIfInBounds_toArray,List.set_cons_zero,List.set_cons_succ]
 refine wpAnyH_take (i:=7) (v:=undef) rfl (by kernel_rfl) (by kernel_rfl) (by kernel_rfl) (fun _ _ _ h=>h) (Or.inr ⟨by rfl,rfl⟩) hHeld ?_
 try simp only [Act.put,List.getElem_cons_succ,List.getElem_cons_zero,List.getElem_toArray,List.setIfInBounds_toArray,List.set_cons_zero,List.set_cons_succ]
 refine wpAnyH_take (i:=8) (v:=undef) rfl (by kernel_rfl) (by kernel_rfl) (by kernel_rfl) (fun _ _ _ h=>h) (Or.inr ⟨by rfl,rfl⟩) hHeld ?_
 try simp only [Act.put,List.getElem_cons_succ,List.getElem_cons_zero,List.getElem_toArray,List.setIfInBounds_toArray,List.set_cons_zero,List.set_cons_succ]
 refine wpAnyH_take (i:=9) (v:=undef) rfl (by kernel_rfl) (by kernel_rfl) (by kernel_rfl) (fun _ _ _ h=>h) (Or.inr ⟨by rfl,rfl⟩) hHeld ?_
 try simp only [Act.put,List.getElem_cons_succ,List.getElem_cons_zero,List.getElem_toArray,List.setIfInBounds_toArray,List.set_cons_zero,List.set_cons_succ]
 refine wpAnyH_take (i:=10) (v:=undef) rfl (by kernel_rfl) (by kernel_rfl) (by kernel_rfl) (fun _ _ _ h=>h) (Or.inr ⟨by rfl,rfl⟩) hHeld ?_
 try simp only [Act.put,List.getElem_cons_succ,List.getElem_cons_zero,List.getElem_toArray,List.setIfInBounds_toArray,List.set_cons_zero,List.set_cons_succ]
 refine wpAnyH_take (i:=11) (v:=undef) rfl (by kernel_rfl) (by kernel_rfl) (by kernel_rfl) (fun _ _ _ h=>h) (Or.inr ⟨by rfl,rfl⟩) hHeld ?_
 try simp only [Act.put,List.getElem_cons_succ,List.getElem_cons_zero,List.getElem_toArray,List.setIfInBounds_toArray,List.set_cons_zero,List.set_cons_succ]
 refine wpAnyH_take (i:=12) (v:=undef) rfl (by kernel_rfl) (by kernel_rfl) (by kernel_rfl) (fun _ _ _ h=>h) (Or.inr ⟨by rfl,rfl⟩) hHeld ?_
 try simp only [Act.put,List.getElem_cons_succ,List.getElem_cons_zero,List.getElem_toArray,List.setIfInBounds_toArray,List.set_cons_zero,List.set_cons_succ]
 refine wpAnyH_take (i:=13) (v:=undef) rfl (by kernel_rfl) (by kernel_rfl) (by kernel_rfl) (fun _ _ _ h=>h) (Or.inr ⟨by rfl,rfl⟩) hHeld ?_
 try simp only [Act.put,List.getElem_cons_succ,List.getElem_cons_zero,List.getElem_toArray,List.setIfInBounds_toArray,List.set_cons_zero,List.set_cons_succ]
 refine wpAnyH_take (i:=14) (v:=undef) rfl (by kernel_rfl) (by kernel_rfl) (by kernel_rfl) (fun _ _ _ h=>h) (Or.inr ⟨by rfl,rfl⟩) hHeld ?_
 try simp only [Act.put,List.getElem_cons_succ,List.getElem_cons_zero,List.getElem_toArray,List.setIfInBounds_toArray,List.set_cons_zero,List.set_cons_succ]
 refine wpAnyH_take (i:=15) (v:=undef) rfl (by kernel_rfl) (by kernel_rfl) (by kernel_rfl) (fun _ _ _ h=>h) (Or.inr ⟨by rfl,rfl⟩) hHeld ?_
 try simp only [Act.put,List.getElem_cons_succ,List.getElem_cons_zero,List.getElem_toArray,List.setIfInBounds_toArray,List.set_cons_zero,List.set_cons_succ]
 refine wpAnyH_take (i:=16) (v:=undef) rfl (by kernel_rfl) (by kernel_rfl) (by kernel_rfl) (fun _ _ _ h=>h) (Or.inr ⟨by rfl,rfl⟩) hHeld ?_
 try simp only [Act.put,List.getElem_cons_succ,List.getElem_cons_zero,List.getElem_toArray,List.setIfInBounds_toArray,List.set_cons_zero,List.set_cons_succ]
 refine wpAnyH_take (i:=17) (v:=?va17) rfl (by kernel_rfl) (by kernel_rfl) (by kernel_rfl) (fun _ _ _ h=>h) (Or.inl ⟨by rfl,?hya17⟩) hHeld ?resta17
 case hya17=>(intro w hSw;(try dsimp only at hSw);go_simp;try with_reducible rfl)
 try simp only [Act.put,List.getElem_cons_succ,List.getElem_cons_zero,List.getElem_toArray,List.setIfInBounds_toArray,List.set_cons_zero,List.set_cons_succ]
 refine wpAnyH_ready (rs:=[18]) (by kernel_rfl) (by simp) ?_
 refine AllReadyH.cons rfl (fun K hK=>?_) AllReadyH.nil
 go_simp
 refine Calls.mono (HYes.out _) ?_
 rintro e w9 ⟨rfl,rfl⟩
 go_wp2_with fail
 refine hK.out _ _ ?_ (fun hHeld=>?_)
 ·exact (Below.refl _ _).drew
 clear hK K
 try simp only [Act.put,List.getElem_cons_succ,List.getElem_cons_zero,List.getElem_toArray,List.setIfInBounds_toArray,List.set_cons_zero,List.set_cons_succ]
 refine wpAnyH_done (by kernel_rfl) ?_ _
 exact hK _ _ (HR.out _ _ rfl rfl rfl rfl (HS.out.keep (Below.refl _ _).drew) (hkN' HD.out (Below.refl _ _).drew) (Below.refl _ _).drew)
theorem fam_name1 (u:World) (rb sb B p r db:Nat) (d:La.Ds) (v:Value) (R:List Rv) (q:Rv) (T:List UInt8) (n:Nat) (W:World) (f:Nat→Value) (Z:Ending→World→Prop) (hl:R.length≤256) (hq:q.1.d.name≠d.name)
  (h0:f 0=.pointer (some ⟨rb,0,none⟩)) (h1:f 1=.pointer (some ⟨sb,0,none⟩)) (h4:f 4=.pointer (some ⟨db,0,none⟩)) (h5:f 5=.int .i64 ((R.length:Int)+1)) (hS:Ss u rb sb B p r v (R++[q]) T n W) (hD:W.heap[db]? =some (.cells (d4 d.kind d.name d.help (.slice none 0 0)) 41))
  (Hr:∀ (f':Nat→Value) (W':World),f' 0=.pointer (some ⟨rb,0,none⟩)→f' 1=.pointer (some ⟨sb,0,none⟩)→f' 4=.pointer (some ⟨db,0,none⟩)→Ss u rb sb B p r v (R++[q]) T n W'→W'.heap[db]? =some (.cells (d4 d.kind d.name d.help (.slice none 0 0)) 41)→Below W.heap.size W W'→Code.wp Tryz.prog (sDrop 3 fB) (bodyPost Tryz.prog Tryz.f30 Z) ⟨fr58 f',[]⟩ W') :
  Code.wp Tryz.prog (sDrop 2 fB) (bodyPost Tryz.prog Tryz.f30 Z) ⟨fr58 f,[]⟩ W:=by
 have HYes:=must_all rb
 have HS:=hid_of hS
 have HD:=hid_of hD
 have HR:Hid (∀ (a:Array Value) (W':World),a.size=58→a.getD 0 (.bool false)=.pointer (some ⟨rb,0,none⟩)→a.getD 1 (.bool false)=.pointer (some ⟨sb,0,none⟩)→a.getD 4 (.bool false)=.pointer (some ⟨db,0,none⟩)→Ss u rb sb B p r v (R++[q]) T n W'→W'.heap[db]? =some (.cells (d4 d.kind d.name d.help (.slice none 0 0)) 41)→Below W.heap.size W W'→Code.wp Tryz.prog (sDrop 3 fB) (bodyPost Tryz.prog Tryz.f30 Z) ⟨a,[]⟩ W'):=fun a W' e1 e2 e3 e4 e5 e6 e7=>wp_fr58 e1 (Hr _ W' e2 e3 e4 e5 e6 e7)
 obtain ⟨va,vg,vcap,hvv,hva,-⟩:=own_slice hS.own
 have hlen:(R++[q]).length=R.length+1:=by simp
 have hva':=hva (by omega)
 rw [hva',hlen] at hvv
 have hrow:RowR W vg 0 (R++[q]):=by
  have:=hS.own
  rw [hvv,hlen] at this
  exact own_row this (by simp)
 have hcell:W.cell? ⟨vg,R.length*11+1,none⟩=some (.string ⟨q.1.d.name.toArray⟩):=by
  have:=(hrow R.length (by omega)).c1
  simpa using this
 have hix:=index_val vg 0 (R.length+1) vcap R.length (R.length:Int) rfl (by omega)
 simp only [Nat.zero_add] at hix
 obtain ⟨s0,s1,s2,-⟩:=three_cells hS.sn
 rw [hvv] at s1
 obtain ⟨d0,d1,d2,d3⟩:=four_cells hD
 have hwl:IntKind.i64.wrap (R.length:Int)=(R.length:Int):=by rw [IntKind.wrap_i64];omega
 have hc1:(0:Int)≤(R.length:Int):=by omega
 have hc2:(R.length:Int) < (R.length:Int)+1:=by omega
 have hb0:((R.length:Int)+1 == 0)=false:=by rw [beq_eq_false_iff_ne];omega
 have hbq:(q.1.d.name == d.name)=false:=beq_eq_false_iff_ne.2 hq
 have hbq2:(q.1.d.name != d.name)=true:=by simp [hq]
 generalize q.1.d.name=qn at hcell hbq hbq2
 rw [fpt2]
 refine wp_seq_k fun K hK=>?_
 rw [fr58_lit,h0,h1,h4,h5]
 clear h0 h1 h4 h5 hS hD Hr hrow hva hva' hq hlen hvv
 dsimp only [sDrop,sFirst,bodyC,fB,Tryz.f30]
 refine wp_region_held_drew (S:=fun W'=>W'.cell? ⟨sb,1,none⟩=some (.slice (some ⟨vg,0,none⟩) (R.length+1) vcap)∧W'.cell? ⟨vg,R.length*11+1,none⟩=some (.string ⟨qn.toArray⟩)∧W'.cell? ⟨db,1,none⟩=some (.string ⟨d.name.toArray⟩)∧Below W.heap.size W W') (by kernel_rfl) (⟨s1,hcell,d1,(Below.refl _ _).drew⟩) (fun hHeld=>?_)
 refine wpAnyH_take (i:=0) (v:=?va0) rfl (by kernel_rfl) (by kernel_rfl) (by kernel_rfl) (fun _ _ _ h=>h) (Or.inl ⟨by rfl,?hya0⟩) hHeld ?resta0
 case hya0=>(intro w hSw;(try dsimp only at hSw);(try obtain ⟨a1,a2,a3,a4⟩:=hSw);go_simp;try with_reducible rfl)
 try simp only [Act.put,List.getElem_cons_zero,List.getElem_toArray,List.setIfInBounds_toArray,List.set_cons_zero,List.set_cons_succ]
 refine wpAnyH_take (i:=1) (v:=?va1) rfl (by kernel_rfl) (by kernel_rfl) (by kernel_rfl) (fun _ _ _ h=>h) (Or.inl ⟨by rfl,?hya1⟩) hHeld ?resta1
 case hya1=>(intro w hSw;(try dsimp only at hSw);(try obtain ⟨a1,a2,a3,a4⟩:=hSw);go_simp;try with_reducible rfl)
 try simp only [Act.put,List.getElem_cons_succ,List.getElem_cons_zero,List.getElem_toArray,List.setIfInBounds_toArray,List.set_cons_zero,List.set_cons_succ]
 refine wpAnyH_take (i:=2) (v:=?va2) rfl (by kernel_rfl) (by kernel_rfl) (by kernel_rfl) (fun _ _ _ h=>h) (Or.inl ⟨by rfl,?hya2⟩) hHeld ?resta2
 case hya2=>(intro w hSw;(try dsimp only at hSw);(try obtain ⟨a1,a2,a3,a4⟩:=hSw);go_simp;try with_reducible rfl)
 try simp only [Act.put,List.getElem_cons_succ,List.getElem_cons_zero,List.getElem_toArray,List.setIfInBounds_toArray,List.set_cons_zero,List.set_cons_succ]
 refine wpAnyH_take (i:=3) (v:=?va3) rfl (by kernel_rfl) (by kernel_rfl) (by kernel_rfl) (fun _ _ _ h=>h) (Or.inl ⟨by rfl,?hya3⟩) hHeld ?resta3
 case hya3=>(intro w hSw;(try dsimp only at hSw);(try obtain ⟨a1,a2,a3,a4⟩:=hSw);go_simp;try with_reducible rfl)
 try simp only [Act.put,List.getElem_cons_succ,List.getElem_cons_zero,List.getElem_toArray,List.setIfInBounds_toArray,List.set_cons_zero,List.set_cons_succ]
 refine wpAnyH_take (i:=4) (v:=?va4) rfl (by kernel_rfl) (by kernel_rfl) (by kernel_rfl) (fun _ _ _ h=>h) (Or.inl ⟨by rfl,?hya4⟩) hHeld ?resta4
 case hya4=>(intro w hSw;(try dsimp only at hSw);(try obtain ⟨a1,a2,a3,a4⟩:=hSw);go_simp;try with_reducible rfl)
 try simp only [Act.put,List.getElem_cons_succ,List.getElem_cons_zero,List.getElem_toArray,List.setIfInBounds_toArray,List.set_cons_zero,List.set_cons_succ]
 refine wpAnyH_take (i:=5) (v:=?va5) rfl (by kernel_rfl) (by kernel_rfl) (by kernel_rfl) (fun _ _ _ h=>h) (Or.inl ⟨by rfl,?hya5⟩) hHeld ?resta5
 case hya5=>(intro w hSw;(try dsimp only at hSw);(try obtain ⟨a1,a2,a3,a4⟩:=hSw);go_simp;try with_reducible rfl)
 try simp only [Act.put,List.getElem_cons_succ,List.getElem_cons_zero,List.getElem_toArray,List.setIfInBounds_toArray,List.set_cons_zero,List.set_cons_succ]
 refine wpAnyH_take (i:=6) (v:=?va6) rfl (by kernel_rfl) (by kernel_rfl) (by kernel_rfl) (fun _ _ _ h=>h) (Or.inl ⟨by rfl,?hya6⟩) hHeld ?resta6
 case hya6=>(intro w hSw;(try dsimp only at hSw);(try obtain ⟨a1,a2,a3,a4⟩:=hSw);go_simp;try with_reducible rfl)
 try simp only [Act.put,List.getElem_cons_succ,List.getElem_cons_zero,List.getElem_toArray,List.setIfInBounds_toArray,List.set_cons_zero,List.set_cons_succ]
 refine wpAnyH_take (i:=7) (v:=?va7) rfl (by kernel_rfl) (by kernel_rfl) (by kernel_rfl) (fun _ _ _ h=>h) (Or.inl ⟨by rfl,?hya7⟩) hHeld ?resta7
 case hya7=>(intro w hSw;(try dsimp only at hSw);(try obtain ⟨a1,a2,a3,a4⟩:=hSw);go_simp;try with_reducible rfl)
 try simp only [Act.put,List.getElem_cons_succ,List.getElem_cons_zero,List.getElem_toArray,List.setIfInBounds_toArray,List.set_cons_zero,List.set_cons_succ]
 refine wpAnyH_take (i:=8) (v:=?va8) rfl (by kernel_rfl) (by kernel_rfl) (by kernel_rfl) (fun _ _ _ h=>h) (Or.inl ⟨by rfl,?hya8⟩) hHeld ?resta8
 case hya8=>(intro w hSw;(try dsimp only at hSw);(try obtain ⟨a1,a2,a3,a4⟩:=hSw);go_simp;try with_reducible rfl)
 try simp only [Act.put,List.getElem_cons_succ,List.getElem_cons_zero,List.getElem_toArray,List.setIfInBounds_toArray,List.set_cons_zero,List.set_cons_succ]
 refine wpAnyH_take (i:=9) (v:=?va9) rfl (by kernel_rfl) (by kernel_rfl) (by kernel_rfl) (fun _ _ _ h=>h) (Or.inl ⟨by rfl,?hya9⟩) hHeld ?resta9
 case hya9=>(intro w hSw;(try dsimp only at hSw);(try obtain ⟨a1,a2,a3,a4⟩:=hSw);go_simp;try with_reducible rfl)
 try simp only [Act.put,List.getElem_cons_succ,List.getElem_cons_zero,List.getElem_toArray,List.setIfInBounds_toArray,List.set_cons_zero,List.set_cons_succ]
 refine wpAnyH_take (i:=10) (v:=?va10) rfl (by kernel_rfl) (by kernel_rfl) (by kernel_rfl) (fun _ _ _ h=>h) (Or.inl ⟨by rfl,?hya10⟩) hHeld ?resta10
 case hya10=>(intro w hSw;(try dsimp only at hSw);(try obtain ⟨a1,a2,a3,a4⟩:=hSw);go_simp;try with_reducible rfl)
 try simp only [Act.put,List.getElem_cons_succ,List.getElem_cons_zero,List.getElem_toArray,List.setIfInBounds_toArray,List.set_cons_zero,List.set_cons_succ]
 refine wpAnyH_take (i:=11) (v:=?va11) rfl (by kernel_rfl) (by kernel_rfl) (by kernel_rfl) (fun _ _ _ h=>h) (Or.inl ⟨by rfl,?hya11⟩) hHeld ?resta11
 case hya11=>(intro w hSw;(try dsimp only at hSw);(try obtain ⟨a1,a2,a3,a4⟩:=hSw);go_simp;try with_reducible rfl)
 try simp only [Act.put,List.getElem_cons_succ,List.getElem_cons_zero,List.getElem_toArray,List.setIfInBounds_toArray,List.set_cons_zero,List.set_cons_succ]
 refine wpAnyH_take (i:=12) (v:=?va12) rfl (by kernel_rfl) (by kernel_rfl) (by kernel_rfl) (fun _ _ _ h=>h) (Or.inl ⟨by rfl,?hya12⟩) hHeld ?resta12
 case hya12=>(intro w hSw;(try dsimp only at hSw);(try obtain ⟨a1,a2,a3,a4⟩:=hSw);go_simp;try with_reducible rfl)
 try simp only [Act.put,List.getElem_cons_succ,List.getElem_cons_zero,List.getElem_toArray,List.setIfInBounds_toArray,List.set_cons_zero,List.set_cons_succ]
 refine wpAnyH_take (i:=13) (v:=?va13) rfl (by kernel_rfl) (by kernel_rfl) (by kernel_rfl) (fun _ _ _ h=>h) (Or.inl ⟨by rfl,?hya13⟩) hHeld ?resta13
 case hya13=>(intro w hSw;(try dsimp only at hSw);(try obtain ⟨a1,a2,a3,a4⟩:=hSw);go_simp;try with_reducible rfl)
 try simp only [Act.put,List.getElem_cons_succ,List.getElem_cons_zero,List.getElem_toArray,List.setIfInBounds_toArray,List.set_cons_zero,List.set_cons_succ]
 refine wpAnyH_take (i:=14) (v:=?va14) rfl (by kernel_rfl) (by kernel_rfl) (by kernel_rfl) (fun _ _ _ h=>h) (Or.inl ⟨by rfl,?hya14⟩) hHeld ?resta14
 case hya14=>(intro w hSw;(try dsimp only at hSw);(try obtain ⟨a1,a2,a3,a4⟩:=hSw);go_simp;try with_reducible rfl)
 try simp only [Act.put,List.getElem_cons_succ,List.getElem_cons_zero,List.getElem_toArray,List.setIfInBounds_toArray,List.set_cons_zero,List.set_cons_succ]
 refine wpAnyH_take (i:=15) (v:=?va15) rfl (by kernel_rfl) (by kernel_rfl) (by kernel_rfl) (fun _ _ _ h=>h) (Or.inl ⟨by rfl,?hya15⟩) hHeld ?resta15
 case hya15=>(intro w hSw;(try dsimp only at hSw);(try obtain ⟨a1,a2,a3,a4⟩:=hSw);go_simp;try with_reducible rfl)
 try simp only [Act.put,List.getElem_cons_succ,List.getElem_cons_zero,List.getElem_toArray,List.setIfInBounds_toArray,List.set_cons_zero,List.set_cons_succ]
 refine wpAnyH_take (i:=16) (v:=?va16) rfl (by kernel_rfl) (by kernel_rfl) (by kernel_rfl) (fun _ _ _ h=>h) (Or.inl ⟨by rfl,?hya16⟩) hHeld ?resta16
 case hya16=>(intro w hSw;(try dsimp only at hSw);(try obtain ⟨a1,a2,a3,a4⟩:=hSw);go_simp;try with_reducible rfl)
 try simp only [Act.put,List.getElem_cons_succ,List.getElem_cons_zero,List.getElem_toArray,List.setIfInBounds_toArray,List.set_cons_zero,List.set_cons_succ]
 refine wpAnyH_take (i:=17) (v:=?va17) rfl (by kernel_rfl) (by kernel_rfl) (by kernel_rfl) (fun _ _ _ h=>h) (Or.inl ⟨by rfl,?hya17⟩) hHeld ?resta17
 case hya17=>(intro w hSw;(try dsimp only at hSw);(try obtain ⟨a1,a2,a3,a4⟩:=hSw);go_simp;try with_reducible rfl)
 try simp only [Act.put,List.getElem_cons_succ,List.getElem_cons_zero,List.getElem_toArray,List.setIfInBounds_toArray,List.set_cons_zero,List.set_cons_succ]
 refine wpAnyH_ready (rs:=[18]) (by kernel_rfl) (by simp) ?_
 refine AllReadyH.cons rfl (fun K hK=>?_) AllReadyH.nil
 go_simp
 refine Calls.mono (HYes.out _) ?_
 rintro e w9 ⟨rfl,rfl⟩
 go_wp2_with fail
 refine hK.out _ _ ?_ (fun hHeld=>?_)
 ·exact ⟨s1,hcell,d1,(Below.refl _ _).drew⟩
 clear hK K
 try simp only [Act.put,List.getElem_cons_succ,List.getElem_cons_zero,List.getElem_toArray,List.setIfInBounds_toArray,List.set_cons_zero,List.set_cons_succ]
 refine wpAnyH_done (by kernel_rfl) ?_ _
 exact hK _ _ (HR.out _ _ rfl rfl rfl rfl (HS.out.keep (Below.refl _ _).drew) (hkN' HD.out (Below.refl _ _).drew) (Below.refl _ _).drew)
theorem types_ld:(85:TypeId)≠41:=by decide
theorem types_cd:(79:TypeId)≠41:=by decide
theorem Ss.put {u:World} {rb sb B db:Nat} {p:Int} {r:Nat} {v:Value} {R:List Rv} {T:List UInt8} {n:Nat} {W:World} {D:Array Value} (h:Ss u rb sb B p r v R T n W) (hd:W.heap[db]? =some (.cells D 41)) (hdr:db≠rb) (hds:db≠sb) (hB:B≤db) (j:Nat) (y:Value):Ss u rb sb B p r v R T n (W.setCell ⟨db,j,none⟩ y):=by
 have hus:=h.us
 have hsB:=h.sB
 refine ⟨⟨?_,Chg.refl _ _,h.rd.lo,h.rd.st.setCell (p:=⟨db,j,none⟩) (by show u.heap.size≤db;omega) y⟩,?_,own_setG h.own (own_notype h.own hd types_dv) y,fun q hq=>⟨own_setG (h.el q hq).1 (own_notype (h.el q hq).1 hd types_ld) y,own_setG (h.el q hq).2 (own_notype (h.el q hq).2 hd types_cd) y⟩,h.rB,h.sB,h.us,h.ne,by simpa [World.setCell] using h.sz,h.vw,h.r64⟩
 ·rw [heap_other _ _ _ _ (by show rb≠db;omega)]
  exact h.rd.at_
 ·rw [heap_other _ _ _ _ (by show sb≠db;omega)]
  exact h.sn
theorem fam_rest (u:World) (rb sb B p r db:Nat) (d:La.Ds) (hm:Mx u) (ht:Wi.Tab u) (hp1:1≤p) (hp2:p≤14) (hdr:db≠rb) (hds:db≠sb) (hdB:B≤db) (x:Vl) (xs:List Vl) (v:Value) (R:List Rv) (T T1 T':List UInt8) (n k:Nat) (W0 W:World) (f:Nat→Value) (hT:T.length≤4194304) (hN:n+k≤4611686018400000000) (hnm:d.name.length≤4194304)
  (h0:f 0=.pointer (some ⟨rb,0,none⟩)) (h1:f 1=.pointer (some ⟨sb,0,none⟩)) (h4:f 4=.pointer (some ⟨db,0,none⟩))
  (hS:Ss u rb sb B p r v R T n W) (hD:W.heap[db]? =some (.cells (d4 0 d.name d.help (.slice none 0 0)) 41)) (hA:AlW p r (R.map (·.1)) (x::xs) n) (q1:(cut10 T).2.2=true) (q2:tyR d.name (cut10 T).1=d.kind) (q3:d.kind≠0) (q4:(cut10 T).2.1=T1) (hk:1≤k) (hL:SeL p d (x::xs) T1 T' (k - 1)) (hC0:Chg (fun b=>b=rb∨b=sb∨B≤b) W0 W) :
  Code.wp Tryz.prog (sDrop 3 fB) (bodyPost Tryz.prog Tryz.f30 (fun e w'=>e=.returned (.tuple #[])∧∃ v' R',R'.map (·.1)=x::xs∧Ss u rb sb B p r v' (R++R') T' (n+k) w'∧Chg (fun b=>b=rb∨b=sb∨B≤b) W0 w')) ⟨fr58 f,[]⟩ W:=by
 have hl1:=cut_lt q1
 rw [q4] at hl1
 obtain ⟨-,-,l3,T2,k1,k2,l4,l5,l6,l7⟩:=hL
 have HK:La.HidC _ _ _ _ _:=kind_any u rb T d.name n W W hS.rd hm hT (by have:=hA.n;omega) hnm
 have HSt:Hid (∀ (v:Value) (T T1:List UInt8) (n k1:Nat) (W:World),_):=fun v=>ser_step u rb sb B p r db d hm ht hp1 hp2 hdr hds x xs v R
 have hA1:AlW p r (R.map (·.1)) (x::xs) (n+1):=⟨hA.w,hA.z,hA.c,by omega⟩
 have HLp:Hid (∀ (f:Nat→Value) (v':Value) (q:Rv) (W':World),q.1=x→f 0=.pointer (some ⟨rb,0,none⟩)→f 1=.pointer (some ⟨sb,0,none⟩)→f 4=.pointer (some ⟨db,0,none⟩)→Ss u rb sb B p r v' (R++[q]) T2 (n+1+k1) W'→W'.heap[db]? =some (.cells (d4 d.kind d.name d.help (.slice none 0 0)) 41)→Chg (fun b=>b=rb∨b=sb∨B≤b) W0 W'→Code.wp Tryz.prog (sDrop 5 fB) (bodyPost Tryz.prog Tryz.f30 (fun e w'=>e=.returned (.tuple #[])∧∃ v' R',R'.map (·.1)=x::xs∧Ss u rb sb B p r v' (R++R') T' (n+k) w'∧Chg (fun b=>b=rb∨b=sb∨B≤b) W0 w')) ⟨fr58 f,[]⟩ W'):=fun f v' q W' hq e0 e1 e4 hS' hD' hC'=>by
  have hA2:=hA1.tail (n':=n+1+k1) (by omega)
  have hA3:AlW p r ((R++[q]).map (·.1)) xs (n+1+k1):=by rw [List.map_append];simpa [hq] using hA2
  refine fam_loop u rb sb B p r db d hm ht hp1 hp2 hdr hds xs v' (R++[q]) T2 T' (n+1+k1) k2 W' f (by omega) (by omega) e0 e1 e4 hS' hD' hA3 l6 _ ?_
  intro v2 R2 w2 g1 g2 g3
  rw [show n+1+k1+k2=n+k by omega,List.append_assoc] at g2
  exact ⟨rfl,v2,[q]++R2,by simp [hq,g1],g2,hC'.trans g3 (fun b e=>Or.inl e)⟩
 have HC0:=hid_of hC0
 have HS:=hid_of hS
 have HD:=hid_of hD
 have HQ:=hid_of (⟨q1,q2,q3,q4⟩:_∧_∧_∧_)
 have HA:=hid_of hA1
 have HL:=hid_of (⟨l3,l4⟩:_∧_)
 have HT1:Hid (T1.length≤4194304):=by unfold Hid;omega
 obtain ⟨d0,d1,d2,d3⟩:=four_cells hD
 rw [fpt3]
 refine wp_seq_k fun K hK=>?_
 rw [fr58_lit,h0,h1,h4]
 clear h0 h1 h4 hS hD hA hA1 q1 q2 q3 q4 l3 l4 l5 l6 l7 hl1 hm ht hT hN hnm hC0
 dsimp only [sDrop,sFirst,bodyC,fB,Tryz.f30]
 go_wp2_with fail
 refine Calls.mono HK.out ?_
 rintro e w1 (⟨g1,g2,rfl,hr⟩ | ⟨g1,g2,-,-⟩ | ⟨g1,-,-⟩)
 ·rw [HQ.out.2.1]
  rw [HQ.out.2.2.2] at hr
  have hS1:=HS.out.called hr
  have hD1:=hr.ch.at_ HD.out hdr
  have f0:w1.frozen? ⟨db,0,none⟩=false:=by simp [World.frozen?,hD1]
  obtain ⟨e0,e1,e2,e3⟩:=four_cells hD1
  have HD2:Hid ((w1.setCell ⟨db,0,none⟩ (.int .i64 d.kind)).heap[db]? =some (.cells (d4 d.kind d.name d.help (.slice none 0 0)) 41)):=by
   have:=Lib.heap_setCell_same (i:=0) hD1 (.int .i64 d.kind)
   unfold Hid
   simpa using this
  have HS2:Hid (Ss u rb sb B p r v R T1 (n+1) (w1.setCell ⟨db,0,none⟩ (.int .i64 d.kind))):=hS1.put hD1 hdr hds hdB 0 _
  have HC2:Hid (Chg (fun b=>b=rb∨b=sb∨B≤b) W0 (w1.setCell ⟨db,0,none⟩ (.int .i64 d.kind))):=(HC0.out.trans hr.ch (fun b e=>Or.inl (Or.inl e))).trans (chg_set w1 ⟨db,0,none⟩ _) (fun b e=>Or.inl (Or.inr (Or.inr (by have e':b=db:=e;omega))))
  clear HK hr hS1 hD1 d0 d1 d2 d3 HS HD HQ
  go_wp2_with fail
  generalize w1.setCell ⟨db,0,none⟩ (.int .i64 d.kind)=w2 at *
  clear e0 e1 e2 e3 f0
  rw [fpt4]
  refine wp_seq_k fun K hK=>?_
  obtain ⟨d0,d1,d2,d3⟩:=four_cells HD2.out
  have D4:La.HidC _ _ _ _ _:=HSt.out v T1 T2 (n+1) k1 w2 HS2.out HD2.out HT1.out HL.out.1 HA.out HL.out.2
  dsimp only [sDrop,sFirst,bodyC,fB,Tryz.f30]
  go_wp2_with fail
  refine Calls.mono D4.out ?_
  rintro e w3 ⟨rfl,v',q,hq,hS3,hD3,hC3⟩
  have HS3:=hid_of hS3
  have HD3:=hid_of hD3
  have HC3:Hid (Chg (fun b=>b=rb∨b=sb∨B≤b) W0 w3):=HC2.out.trans hC3 (fun b e=>Or.inl e)
  clear D4 hS3 hD3 hC3 HSt
  go_wp2_with fail
  refine wp_fr58 rfl ?_
  exact HLp.out _ v' q w3 hq rfl rfl rfl HS3.out HD3.out HC3.out
 ·exact absurd (HQ.out.2.1 ▸ g2) HQ.out.2.2.1
 ·rw [HQ.out.1] at g1;cases g1
end Go.Proofs.YtfkbjdgbpenflaaGreatDoor.Sc
