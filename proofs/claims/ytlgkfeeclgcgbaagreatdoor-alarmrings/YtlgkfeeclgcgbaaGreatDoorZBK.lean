/- ALARM: Push onto an empty ring, what else lies told (printed by gen_ak.py out of ring's IN and IP). Own work of the verifier. -/
import Derived.Test.YtlgkfeeclgcgbaaGreatDoorZBJ
import Derived.Test.YtlgkfeeclgcgbaaGreatDoorZAQ
import Derived.Sort.CutIn
set_option maxRecDepth 100000
set_option maxHeartbeats 4000000
namespace Go.Proofs.YtlgkfeeclgcgbaaGreatDoor.Ri
open Go.RowKit Me
theorem ex_none (b:Nat) {v:Option Nat} (hv:v=none) {w w':World} (h:w.grownBy w' v):La.Ex b w w':=by
 subst hv
 exact ⟨h.os,h.tape,h.output,h.size,fun k hk _=>h.block k hk (by simp)⟩
theorem lay_nil (B b n:Nat) (T:List Int) (R:List Rs) (tv sv:Value) (tm:Int) (s:Sn) (u:Value) (w:World) (hg:Rg B b n T R 0 tv sv w) (hBw:B≤w.heap.size) (hlt:R.length < n) (ho:OS B (s,u) w) (htv:tv.ownBlock=none) (hsv:sv.ownBlock=none) :
  Calls Tryz.prog 20 #[.pointer (some ⟨b,0,none⟩),.int .i64 tm,sx (s,u)] w fun e w'=>(∃ v,e=.returned v)∧∃ tv' sv',Rg B b n (T++[tm]) (R++[(s,u)]) 0 tv' sv' w'∧La.Ex b w w':=by
 obtain ⟨ua,uc,hu⟩:=ho.form
 dsimp only at hu
 subst hu
 have hl:=hg.hl
 have hm:=hg.hm
 have hlt':(R.length:Int) < (n:Int):=by omega
 have HH:=hid_of (hg.rh.below (bel1 w (.cells #[.int .i64 s.p,.slice ua s.vs.length uc,.int .u64 (s.r:Int)] 50)))
 have HO:=hid_of (ho.below (bel1 w (.cells #[.int .i64 s.p,.slice ua s.vs.length uc,.int .u64 (s.r:Int)] 50)))
 have HX:=hid_of (new_1 w (.cells #[.int .i64 s.p,.slice ua s.vs.length uc,.int .u64 (s.r:Int)] 50))
 have HB:=hid_of ((bel1 w (.cells #[.int .i64 s.p,.slice ua s.vs.length uc,.int .u64 (s.r:Int)] 50)).mono hBw)
 obtain ⟨ta,tg,tc,e1,h1,-⟩:=own_slice hg.ti
 obtain ⟨sa,sg,sc,e2,h2,-⟩:=own_slice hg.sn
 rw [hl] at e1 h1
 subst e1 e2
 have HK:Hid (B≤w.heap.size∧b < w.heap.size):=⟨hBw,hg.lt⟩
 have HRg:=hid_of hg
 have HTv:=hid_of htv
 have HSv:=hid_of hsv
 have HE:=hid_of (La.Ex.of (g:=b) (bel1 w (.cells #[.int .i64 s.p,.slice ua s.vs.length uc,.int .u64 (s.r:Int)] 50)))
 clear hg ho h1 h2 htv hsv
 go_enter Tryz.func20,Tryz.ntmps20
 go_upto_region 1 with fail
 generalize w.alloc (.cells #[.int .i64 s.p,.slice ua s.vs.length uc,.int .u64 (s.r:Int)] 50)=w1 at *
 obtain ⟨c0,c1,c2,c3,cf⟩:=four_cells HH.out.drew.hd
 have HL:Hid (∀ W,W.cell? ⟨b,1,none⟩=some (.slice ta R.length tc)→Calls Tryz.prog 17 #[.pointer (some ⟨b,0,none⟩)] W fun e w'=>e=.returned (.int .i64 (R.length:Int))∧w'=W):=fun W h=>len_any b R.length tc _ W h
 go_cut [12] from 6 to 12 (fun x W=>x=.bool true∧W=w1.drew)
 case first =>
  go_region_with (go_at_call 17;with_reducible refine (HL.out _ c1).mono ?_;rintro e w2 ⟨rfl,rfl⟩)
  all_goals
   go_wp2
   go_meet
   exact ⟨rfl,rfl⟩
 case rest =>
 obtain ⟨rfl,rfl⟩:=hcut
 have HA:=hid_of HH.out.drew
 have HOA:=hid_of (HO.out.below (drew_bel1 w1))
 have HXA:=hid_of (hkN HX.out (drew_bel1 w1))
 have HBA:=hid_of HB.out.drew
 have HEA:=hid_of (HE.out.trans (La.Ex.of (drew_bel1 w1)))
 have HS1:Hid (w.heap.size+1≤w1.drew.heap.size):=(Array.getElem?_eq_some_iff.1 HX.out).1
 generalize w1.drew=wA at *
 clear HH HO HX HB HE c0 c1 c2 c3 cf HL
 obtain ⟨i0,hi,hz0,hz1,hz2⟩:=info_parts infoT
 have hz0':=hid_of hz0
 have hz1':=hid_of hz1
 have hz2':=hid_of hz2
 clear hz0 hz1 hz2
 obtain ⟨c0,c1,c2,c3,cf⟩:=four_cells HA.out.hd
 have hbl:=bel1 wA (.cells #[.int .i64 tm] 2)
 have HG1:=hid_of (HA.out.below hbl)
 have HNw:=hid_of (new_1 wA (.cells #[.int .i64 tm] 2))
 have HBl:=hid_of hbl
 have HSz:Hid (B≤(wA.alloc (.cells #[.int .i64 tm] 2)).heap.size):=by have:=HK.out.1;have:=HS1.out;have:=hbl.size;unfold Hid;omega
 clear hbl
 go_upto_region 2 with fail
 go_cut [] from 13 to 22 (fun W=>∃ v,Hid (Rh B b n (T++[tm]) R 0 v (.slice sa R.length sc) W∧OS B (s,.slice ua s.vs.length uc) W∧W.heap[w.heap.size]? =some (.cells #[.int .i64 s.p,.slice ua s.vs.length uc,.int .u64 (s.r:Int)] 50 (0,0))∧Below B w W∧w.heap.size+1≤W.heap.size∧La.Ex b w W))
 case first =>
  go_wp2_with (at_builtin;refine wpList_append_own _ rfl _ _ 69 rfl B 2 i0 _ 1 8 Tryz.underlying69 hi hz0'.out hz1'.out hz2'.out rfl (by decide) _ T.length (flT T) rfl HG1.out.ti ⟨wA.heap.size,0,none⟩ 1 1 (flT [tm]) rfl rfl (World.news_of_block HNw.out) (by simp [flT,Value.oneCell']) (by unfold maxLen;omega) (by omega) HSz.out ?_;intro v5 w5 hown5 hg5 _;obtain ⟨a5,b5,n5,rfl,-⟩:=own_slice hown5;obtain ⟨q1,q2,q3⟩:=HG1.out.grow1 hg5;obtain ⟨d0,d1,d2,d3,df⟩:=four_cells q1;have df1:=df 1)
  go_meet
  have hR:=HG1.out.time (t:=tm) hown5 hg5
  have hx5:w5.heap[w.heap.size]? =some (.cells #[.int .i64 s.p,.slice ua s.vs.length uc,.int .u64 (s.r:Int)] 50 (0,0)):=(hg5.block _ (by have:=HS1.out;have:=HBl.out.size;omega) (fun e=>own_notype HG1.out.ti (hkN HXA.out HBl.out) (fun e=>ne3 e.symm) e.symm)).trans (hkN HXA.out HBl.out)
  have hos:OS B (s,.slice ua s.vs.length uc) (w5.setCell ⟨b,1,none⟩ (.slice a5 (T.length+1) n5)):=(q3 _ (HOA.out.below HBl.out)).chg (chg_set w5 b 1 _) (fun p e=>by subst e;exact ⟨_,_,_,q1,tRV⟩)
  have hbB:Below B w w5:=own_grown HG1.out.ti (HBA.out.trans (HBl.out.mono (by have:=HK.out.1;have:=HS1.out;omega))) HSz.out hg5
  rw [hl] at hR hos
  refine ⟨_,hR,hos,?_,hbB.setCell (p:=⟨b,1,none⟩) HRg.out.hB _,?_,((HEA.out.trans (La.Ex.of HBl.out)).trans (ex_none b HTv.out hg5)).set 1 _⟩
  ·rw [heap_other _ _ _ _ (by show _≠b;have:=HK.out.2;omega)]
   exact hx5
  ·have:=(Array.getElem?_eq_some_iff.1 hx5).1
   simp only [World.setCell,Array.size_modify]
   omega
 case rest =>
 obtain ⟨v6,H6⟩:=hcut
 clear HA HOA HXA HBA HEA HG1 HNw HBl HSz c0 c1 c2 c3 cf hi hz0' hz1' hz2' HS1
 go_upto_region 3 with fail
 obtain ⟨e1,e2,e3,e4,e5,e6⟩:=H6.out
 have HE7:=hid_of (e6.trans (La.Ex.of (drew_bel1 wc)))
 have H7:=hid_of e1.drew
 have HO7:=hid_of (e2.below (drew_bel1 wc))
 have HX7:=hid_of (hkN e3 (drew_bel1 wc))
 have HB7:=hid_of e4.drew
 have HS7:Hid (w.heap.size+1≤wc.drew.heap.size):=e5
 obtain ⟨c0,c1,c2,c3,cf⟩:=four_cells H7.out.hd
 obtain ⟨x0,x1,x2,-,-,-⟩:=three_cells HX7.out
 clear e1 e2 e3 e4 e5 e6 H6
 have hbl:Below wc.drew.heap.size wc.drew (wc.alloc (.cells #[.int .i64 s.p,.slice ua s.vs.length uc,.int .u64 (s.r:Int)] 50)).drew:=bel1 wc.drew (.cells #[.int .i64 s.p,.slice ua s.vs.length uc,.int .u64 (s.r:Int)] 50)
 have HG8:=hid_of (H7.out.below hbl)
 have HN8:Hid ((wc.alloc (.cells #[.int .i64 s.p,.slice ua s.vs.length uc,.int .u64 (s.r:Int)] 50)).drew.heap[wc.heap.size]? =some (.cells #[.int .i64 s.p,.slice ua s.vs.length uc,.int .u64 (s.r:Int)] 50 (0,0))):=new_1 wc.drew (.cells #[.int .i64 s.p,.slice ua s.vs.length uc,.int .u64 (s.r:Int)] 50)
 have HBl:=hid_of hbl
 obtain ⟨t0,t1,t2,t3,tf⟩:=four_cells HG8.out.hd
 have HSz:Hid (B≤(wc.alloc (.cells #[.int .i64 s.p,.slice ua s.vs.length uc,.int .u64 (s.r:Int)] 50)).drew.heap.size):=by have:=HK.out.1;have:=HS7.out;have:=hbl.size;unfold Hid;omega
 clear hbl
 go_region_law (refine step_sn (by rfl) _ _ (by rfl) (v:=.slice sa R.length sc) (by rfl) HG8.out.sn HSz.out (by omega) _ (by rfl) (s,.slice ua s.vs.length uc) ⟨_,_,_,rfl⟩ HN8.out ?_;intro g6 k6 w6 hown hgr;obtain ⟨q1,q2,q3⟩:=HG8.out.grow2 hgr;obtain ⟨d0,d1,d2,d3,df⟩:=four_cells q1;have df2:=df 2)
 all_goals
  have hR:=HG8.out.snap (r:=(s,.slice ua s.vs.length uc)) (HO7.out.below HBl.out) hown hgr
  have HQ:Hid (Rg B b n (T++[tm]) (R++[(s,.slice ua s.vs.length uc)]) 0 v6 (.slice (some ⟨g6,0,none⟩) (R.length+1) k6) (w6.setCell ⟨b,2,none⟩ (.slice (some ⟨g6,0,none⟩) (R.length+1) k6))∧La.Ex b w (w6.setCell ⟨b,2,none⟩ (.slice (some ⟨g6,0,none⟩) (R.length+1) k6))):=⟨⟨hR.hd,hR.ti,hR.sn,hR.el,by simp [hl],by simp;omega,hm,Or.inl rfl,hR.hB⟩,((HE7.out.trans (La.Ex.of HBl.out)).trans (ex_none b HSv.out hgr)).set 2 _⟩
  clear hR hown hgr q1 q2 q3 d0 d1 d2 d3 df df2 t0 t1 t2 t3 tf c0 c1 c2 c3 cf x0 x1 x2
  generalize w6.setCell ⟨b,2,none⟩ (.slice (some ⟨g6,0,none⟩) (R.length+1) k6)=w7 at *
  go_wp2
  refine bodyPost_ret (results_none rfl _ _ _) rfl ?_
  exact ⟨⟨_,rfl⟩,_,_,HQ.out⟩
theorem push_fr (Fr:World→World→Prop) (B b n k:Nat) (T:List Int) (R:List Rs) (tv sv:Value) (tm:Int) (p:Int) (x:Vl) (r:Nat) (v:Value) (w:World) (T':List Int) (R':Value→List Rs) (k':Nat)
  (hg:Rg B b n T R k tv sv w) (hBw:B≤w.heap.size) (hF:∀ q ∈ R,Lk1 p x q.1) (hv:SnAt w ⟨p,[x],r⟩ v) (hc:chkS ⟨p,[x],r⟩=(0,0)) (hW:SnW ⟨p,[x],r⟩) (hx:x.d.labels.length≤1048576∧x.cs.length≤1048576)
  (hord:R.length=0∨0 < R.length∧T.getD (plc k (R.length - 1) R.length) 0 < tm)
  (hlay:∀ W u,Rg B b n T R k tv sv W→B≤W.heap.size→OS B (⟨p,[x],r⟩,u) W→Calls Tryz.prog 20 #[.pointer (some ⟨b,0,none⟩),.int .i64 tm,sx (⟨p,[x],r⟩,u)] W fun e w'=>(∃ v,e=.returned v)∧∃ tv' sv',Rg B b n T' (R' u) k' tv' sv' w'∧Fr W w') :
  Calls Tryz.prog 11 #[.pointer (some ⟨b,0,none⟩),.int .i64 tm,v] w fun e w'=>e=.returned (.int .i64 0)∧∃ u tv' sv' W0,Rg B b n T' (R' u) k' tv' sv' w'∧Below w.heap.size w W0∧Fr W0 w':=by
 obtain ⟨us,rfl,su⟩:=hv
 obtain ⟨ao,b1,o1,cap,rfl,-⟩:=sv_open su
 obtain ⟨tg,tc,sg,sc,ta,sa,e1,e2,hRw⟩:=hg.rw
 have HC:Hid (∀ W,Below w.heap.size w W→Calls Tryz.prog 16 #[.agg #[.int .i64 p,.slice ao 1 cap,.int .u64 (r:Int)]] W fun e w'=>e=two 0 0∧Below W.heap.size W w'):=fun W hb=>by
  have:=check_any ⟨p,[x],r⟩ _ hW W ⟨_,rfl,su.below hb⟩
  rw [hc] at this
  exact this
 have HL:Hid (∀ W,Below w.heap.size w W→Calls Tryz.prog 17 #[.pointer (some ⟨b,0,none⟩)] W fun e w'=>e=.returned (.int .i64 (R.length:Int))∧w'=W):=fun W hb=>len_any b R.length tc ta W (cellB hb hRw.c1)
 have HN:Hid (0 < R.length→∀ W,Below w.heap.size w W→Calls Tryz.prog 18 #[.pointer (some ⟨b,0,none⟩)] W fun e w'=>e=.returned (.int .i64 (T.getD (plc k (R.length - 1) R.length) 0))∧Below W.heap.size W w'):=fun h0 W hb=>newest_any B b n k T R tv sv W (hg.below hb) h0
 have HU:Hid (∀ W,Below w.heap.size w W→Calls Tryz.prog 19 #[.pointer (some ⟨b,0,none⟩),.agg #[.int .i64 p,.slice ao 1 cap,.int .u64 (r:Int)]] W fun e w'=>e=.returned (.bool false)∧Below W.heap.size W w'):=fun W hb=>unlike_one B b n k T R tv sv p x r _ W (hg.below hb) (Nat.le_trans hBw hb.size) hF ⟨_,rfl,su.below hb⟩
 have HCp:Hid (∀ W,Below w.heap.size w W→Calls Tryz.prog 21 #[.agg #[.int .i64 p,.slice ao 1 cap,.int .u64 (r:Int)]] W fun e w'=>CyQ W ⟨p,[x],r⟩ e w'):=fun W hb=>rcopied_any ⟨p,[x],r⟩ _ W ⟨_,rfl,su.below hb⟩ (by show 1≤_;omega) (fun y hy=>by
  have:y=x:=by simpa using hy
  subst this
  exact hx)
 have HLy:Hid (∀ W u,Below w.heap.size w W→OS w.heap.size (⟨p,[x],r⟩,u) W→Calls Tryz.prog 20 #[.pointer (some ⟨b,0,none⟩),.int .i64 tm,.agg #[.int .i64 p,u,.int .u64 (r:Int)]] W fun e w'=>(∃ v,e=.returned v)∧∃ tv' sv',Rg B b n T' (R' u) k' tv' sv' w'∧Fr W w'):=fun W u hb ho=>hlay W u (hg.below hb) (Nat.le_trans hBw hb.size) (ho.le hBw)
 have HX:=hid_of (new_1 w (.cells #[.int .i64 p,.slice ao 1 cap,.int .u64 (r:Int)] 50))
 have HB1:=hid_of (bel1 w (.cells #[.int .i64 p,.slice ao 1 cap,.int .u64 (r:Int)] 50))
 have HK:=hid_of hBw
 clear hg su hRw hF hlay hc hW
 generalize T.getD (plc k (R.length - 1) R.length) 0=nw at *
 go_enter Tryz.func11,Tryz.ntmps11
 go_upto_region 1 with fail
 generalize w.alloc (.cells #[.int .i64 p,.slice ao 1 cap,.int .u64 (r:Int)] 50)=w1 at *
 obtain ⟨x0,x1,x2,-,-,-⟩:=three_cells HX.out
 go_upto_region 4 with (go_at_call 16;with_reducible refine (HC.out _ HB1.out).mono ?_;rintro e w2 ⟨rfl,hb2⟩)
 have HB2:=hid_of hb2
 clear hb2 HC
 go_cut [25] from 17 to 25 (fun x W=>x=.bool false∧Hid (Below w1.heap.size w1 W))
 case first =>
  rcases hord with h0 | ⟨h0,h1⟩
  ·have h0':(R.length:Int)=0:=by omega
   go_wp2_with (go_at_call 17;with_reducible refine (HL.out _ (bt HB1.out HB2.out)).mono ?_;rintro e w3 ⟨rfl,rfl⟩)
   go_meet
   exact ⟨rfl,HB2⟩
  ·have h0':(0:Int) < (R.length:Int):=by omega
   have h1':¬ tm≤nw:=by omega
   go_wp2_with (first
    | (go_at_call 17;with_reducible refine (HL.out _ (bt HB1.out HB2.out)).mono ?_;rintro e w3 ⟨rfl,rfl⟩)
    | (go_at_call 18;with_reducible refine (HN.out h0 _ (bt HB1.out HB2.out)).mono ?_;rintro e w4 ⟨rfl,hb4⟩))
   go_meet
   exact ⟨by rw [decide_eq_false (by omega)],bt HB2.out hb4⟩
 case rest =>
 obtain ⟨rfl,HB3⟩:=hcut
 clear HB2 HL HN x0 x1 x2
 obtain ⟨x0,x1,x2,-,-,-⟩:=three_cells (hkN HX.out HB3.out)
 go_upto_region 8 with (go_at_call 19;with_reducible refine (HU.out _ (bt HB1.out HB3.out)).mono ?_;rintro e w4 ⟨rfl,hb4⟩)
 have HB4:=hid_of (bt HB3.out hb4)
 clear HB3 hb4 HU x0 x1 x2
 obtain ⟨x0,x1,x2,-,-,-⟩:=three_cells (hkN HX.out HB4.out)
 go_wp2_with (first
  | (go_at_call 21;(with_reducible refine (HCp.out _ (bt HB1.out HB4.out)).mono ?_);rintro e w5 ⟨u,J,rfl,hb5,hj5,hm5⟩;have HB5:=hid_of (bt (bt HB1.out HB4.out) hb5);have HO5:=hid_of ((OS.of (r:=(⟨p,[x],r⟩,u)) hj5 hm5).le (bt HB1.out HB4.out).size))
  | (go_at_call 20;(with_reducible refine (HLy.out _ _ HB5.out HO5.out).mono ?_);rintro e w6 ⟨⟨v6,rfl⟩,tv',sv',hR6,hb6⟩))
 go_ret
 exact ⟨rfl,u,tv',sv',_,hR6,HB5.out,hb6⟩
theorem push_e (b:Nat) (tm:Int) (m:Nat) (v:Value) (w:World) (hm:m < 9223372036854775808) (hg:Rg b b 2 [] [] 0 (.slice none 0 0) (.slice none 0 0) w) (hv:SnAt w (oneS m) v) :
  Calls Tryz.prog 11 #[.pointer (some ⟨b,0,none⟩),.int .i64 tm,v] w fun e w'=>e=.returned (.int .i64 0)∧∃ u tv' sv',Rg b b 2 [tm] [(oneS m,u)] 0 tv' sv' w'∧La.Ex b w w':=by
 refine (push_fr (La.Ex b) b b 2 0 [] [] _ _ tm 2 (oneV m) 0 v w [tm] (fun u=>[(oneS m,u)]) 0 hg (Nat.le_of_lt hg.lt) (fun q hq=>by cases hq) hv (one_chkS m) (one_W m hm) ⟨by show 0≤_;omega,by show 0≤_;omega⟩ (Or.inl rfl) (fun W u h1 h2 h3=>lay_nil b b 2 [] [] _ _ tm (oneS m) u W h1 h2 (by decide) h3 rfl rfl)).mono ?_
 rintro e w' ⟨rfl,u,tv',sv',W0,h1,h2,h3⟩
 exact ⟨rfl,u,tv',sv',h1,(La.Ex.of h2).trans h3⟩
end Go.Proofs.YtlgkfeeclgcgbaaGreatDoor.Ri
