/- THE TWO TEXTS that awake reads. Own work of the verifier. -/
import Derived.Test.YtfkbjdgbpenflaaGreatDoorWBL
import Derived.Test.YtfkbjdgbpenflaaGreatDoorWBN
import Derived.Lib.SlBytesConst
import Derived.Test.YtfkbjdgbpenflaaGreatDoorWBY
import Derived.Test.YtfkbjdgbpenflaaGreatDoorWBZ
import Derived.Test.YtfkbjdgbpenflaaGreatDoorWBW
set_option maxRecDepth 100000
set_option maxHeartbeats 4000000
namespace Go.Proofs.YtfkbjdgbpenflaaGreatDoor.Sc
open Go.RowKit Me
abbrev tA4:List UInt8:=[97,32,55,10]
abbrev tA3:List UInt8:=[35,32,84,89,80,69,32,97,32,99,111,117,110,116,101,114,10]++tA4
abbrev tA2:List UInt8:=[32,72,69,76,80,32,97,32,10]++tA3
abbrev tA1:List UInt8:=[35,32,114,101,102,117,115,101,100,32,53,10,35]++tA2
abbrev tA0:List UInt8:=[35,32,103,110,111,109,111,110,32,49,10]++tA1
abbrev tB0:List UInt8:=[35,32,103,110,111,109,111,110,32,51,10]
theorem cutA0:cut10 tA0=([35,32,103,110,111,109,111,110,32,49],tA1,true):=by decide
theorem cutA1:cut10 tA1=([35,32,114,101,102,117,115,101,100,32,53],35::tA2,true):=by decide
theorem cutA2:cut10 (35::tA2)=([35,32,72,69,76,80,32,97,32],tA3,true):=by decide
theorem cutA3:cut10 tA3=([35,32,84,89,80,69,32,97,32,99,111,117,110,116,101,114],tA4,true):=by decide
theorem cutA4:cut10 tA4=([97,32,55],[],true):=by decide
theorem cutB0:cut10 tB0=([35,32,103,110,111,109,111,110,32,51],[],true):=by decide
theorem who1:whoR [49]=some 1:=by kernel_rfl
theorem who5:whoR [53]=some 5:=by kernel_rfl
theorem who3:whoR [51]=some 3:=by kernel_rfl
theorem heA:heR [35,32,72,69,76,80,32,97,32]=some ([97],[]):=by kernel_rfl
theorem tyA:tyR [97] [35,32,84,89,80,69,32,97,32,99,111,117,110,116,101,114]=1:=by kernel_rfl
theorem cnA:cntR [97] [97,32,55]=some ([],7):=by kernel_rfl
theorem lstA:lstE ⟨((1:Nat):Int),[cx [97] [] [] 7],5⟩=0:=by
 have h1:La.chkD (cx [97] [] [] 7).d=0:=by
  have e1:La.nameB [97]=true:=by decide
  have e2:La.txE []=0:=by unfold La.txE;rw [La.utfB];rfl
  unfold La.chkD
  simp [e1,e2,La.chkL]
 have h2:holdB 1 (cx [97] [] [] 7)=true:=by
  unfold holdB
  rw [if_pos (by decide)]
  decide
 unfold lstE chkS
 rw [if_neg (by decide),if_neg (by decide)]
 show (chkV 1 none [cx [97] [] [] 7] 0).1=0
 simp only [chkV,chk1,h1,h2]
 simp
theorem vwA:VW (cx [97] [] [] 7):=⟨⟨by decide,by decide⟩,(fun c hc=>by cases hc),by decide,by decide,by decide,by decide,by decide,⟨by decide,by decide,fun a ha=>by cases ha⟩⟩
theorem conv_row {W:World} {g cap:Nat} {fr:Nat × Nat} (l:List UInt8) (h:W.heap[g]? =some (.cells (Lib.byteCells l).toArray 5 fr)):(convert 30 9 (.slice (some ⟨g,0,none⟩) l.length cap)).run Tryz.prog W=.ok (.string ⟨l.toArray⟩) W :=
 run_convert_bytes_back W 30 9 5 ⟨g,0,none⟩ cap l Tryz.underlying30 Tryz.underlying5 Tryz.underlying9 (fun j hj=>by simp [World.cell?,h,Lib.byteCells,hj,Addr.add_lit])
theorem hdA0:HdL tA0 gnoT 1 tA1:=⟨by rw [cutA0],by rw [cutA0];decide,by rw [cutA0];exact who1,by rw [cutA0],by decide⟩
theorem hdA1:HdL tA1 refT 5 (35::tA2):=⟨by rw [cutA1],by rw [cutA1];decide,by rw [cutA1];exact who5,by rw [cutA1],by decide⟩
theorem hdB0:HdL tB0 gnoT 3 []:=⟨by rw [cutB0],by rw [cutB0];decide,by rw [cutB0];exact who3,by rw [cutB0],by decide⟩
theorem alwA:AlW 1 5 [] [cx [97] [] [] 7] 2:=by
 refine ⟨fun x hx=>?_,fun i hi=>?_,by decide,by decide⟩
 ·rw [List.mem_singleton.1 hx]
  exact ⟨⟨by decide,by decide,(fun q hq=>by cases hq),by decide,by decide⟩,vwA,by decide⟩
 ·have e:i=0:=by simpa using hi
  subst e
  exact lstA
theorem seA:SeL 1 ⟨1,[97],[],[]⟩ [cx [97] [] [] 7] tA4 [] 1 :=
 ⟨by decide,by decide,⟨rfl,rfl,rfl⟩,[],1,0,Or.inl ⟨rfl,by rw [cutA4],by rw [cutA4];exact cnA,by rw [cutA4],rfl,rfl⟩,by decide,⟨rfl,rfl,Or.inl rfl⟩,rfl⟩
theorem faA:FaR 1 ⟨1,[97],[],[]⟩ [cx [97] [] [] 7] (35::tA2) [] 2 :=
 ⟨by rw [cutA2],by rw [cutA2];exact heA,by rw [cutA2,cutA3],by rw [cutA2,cutA3];exact tyA,by decide,by decide,by rw [cutA2,cutA3];exact seA⟩
theorem falA:FaL 1 [] [⟨⟨1,[97],[],[]⟩,cx [97] [] [] 7,[]⟩] (35::tA2) 3 :=
 ⟨by decide,by decide,(fun y hy=>by cases hy),[],2,0,faA,by decide,⟨rfl,rfl⟩,rfl⟩
theorem parseA (w:World) (g:Nat) (fr:Nat × Nat) (hm:Mx w) (ht:Wi.Tab w) (h:w.heap[g]? =some (.cells (Lib.byteCells tA0).toArray 5 fr)):Calls Tryz.prog 7 #[.slice (some ⟨g,0,none⟩) 54 54] w fun e w'=>∃ g cap l' c',e=.returned (.tuple #[.agg #[.int .i64 1,.slice (some ⟨g,0,none⟩) 1 cap,.int .u64 5],.int .i64 0,.int .i64 0])∧w'.ownsRow w.heap.size 45 11 (.slice (some ⟨g,0,none⟩) 1 cap) 1 (flV [(cx [97] [] [] 7,l',c')])∧Below w.heap.size w w':=by
 refine (parse_all tA0 tA1 (35::tA2) g 54 1 5 3 [⟨⟨1,[97],[],[]⟩,cx [97] [] [] 7,[]⟩] w hm ht (by decide) hdA0 (by decide) (by decide) hdA1 (by decide) alwA falA (fun W hb=>conv_row tA0 (hkN' h hb))).mono ?_
 rintro e w' ⟨v,R,hY,rfl,ho,-,hb⟩
 match R,hY,ho with
 | [(x,l',c')],hY,ho =>
  have hx:x=cx [97] [] [] 7:=by simpa [fmV] using hY
  subst hx
  obtain ⟨ao,g',cap,rfl,hao⟩:=own_slice ho
  obtain rfl:=hao.1 (by simp)
  exact ⟨g',cap,l',c',rfl,ho,hb⟩
theorem parseB (w:World) (g:Nat) (fr:Nat × Nat) (hm:Mx w) (ht:Wi.Tab w) (h:w.heap[g]? =some (.cells (Lib.byteCells tB0).toArray 5 fr)):Calls Tryz.prog 7 #[.slice (some ⟨g,0,none⟩) 11 11] w fun e w'=>e=.returned (.tuple #[.agg #[.int .i64 0,.slice none 0 0,.int .u64 0],.int .i64 5,.int .i64 2])∧Below w.heap.size w w' :=
 parse_cut tB0 g 11 3 w hm ht hdB0 (by decide) (by decide) (fun W hb=>conv_row tB0 (hkN' h hb))
abbrev byA:Array Value:=#[.int .u8 35,.int .u8 32,.int .u8 103,.int .u8 110,.int .u8 111,.int .u8 109,.int .u8 111,.int .u8 110,.int .u8 32,.int .u8 49,.int .u8 10,.int .u8 35,.int .u8 32,.int .u8 114,.int .u8 101,.int .u8 102,.int .u8 117,.int .u8 115,.int .u8 101,.int .u8 100,.int .u8 32,.int .u8 53,.int .u8 10,.int .u8 35,.int .u8 32,.int .u8 72,.int .u8 69,.int .u8 76,.int .u8 80,.int .u8 32,.int .u8 97,.int .u8 32,.int .u8 10,.int .u8 35,.int .u8 32,.int .u8 84,.int .u8 89,.int .u8 80,.int .u8 69,.int .u8 32,.int .u8 97,.int .u8 32,.int .u8 99,.int .u8 111,.int .u8 117,.int .u8 110,.int .u8 116,.int .u8 101,.int .u8 114,.int .u8 10,.int .u8 97,.int .u8 32,.int .u8 55,.int .u8 10]
abbrev byB:Array Value:=#[.int .u8 35,.int .u8 32,.int .u8 103,.int .u8 110,.int .u8 111,.int .u8 109,.int .u8 111,.int .u8 110,.int .u8 32,.int .u8 51,.int .u8 10]
theorem byA_eq:byA=(Lib.byteCells tA0).toArray:=by rfl
theorem byB_eq:byB=(Lib.byteCells tB0).toArray:=by rfl
theorem awake_any (w:World) (hm:Mx w) (ht:Wi.Tab w):Calls Tryz.prog 4 #[] w fun e w'=>e=.returned (.bool true)∧Below w.heap.size w w':=by
 obtain ⟨W1,hW1⟩:∃ W1,W1=w.alloc (.cells byA 5 (54,55)):=⟨_,rfl⟩
 have hb1:Below w.heap.size w W1:=by rw [hW1];exact bel1 _ _
 have hN1:W1.heap[w.heap.size]? =some (.cells (Lib.byteCells tA0).toArray 5 (54,55)):=by rw [hW1,byA_eq];exact new_1 w _
 have HA:La.HidC _ _ _ _ _:=parseA W1 w.heap.size (54,55) (hm.below hb1) (ht.below hb1) hN1
 have HBp:Hid (∀ W g,Below w.heap.size w W→W.heap[g]? =some (Obj.cells (Lib.byteCells tB0).toArray 5 (11,12))→Calls _ _ _ _ _):=fun W g hb hg=>parseB W g (11,12) (hm.below hb) (ht.below hb) hg
 have HW1:=hid_of hW1
 have HB1:=hid_of hb1
 have kc:=fun (w:World) (C:Array Value) (n c:Nat)=>Lib.run_convert_bytes_const (P:=Tryz.prog) w 30 5 C n c Tryz.underlying30 Tryz.underlying5
 clear hm ht hW1 hb1 hN1
 go_enter Tryz.func4,Tryz.ntmps4
 go_wp2_with fail
 rw [← HW1.out]
 refine (HA.out).mono ?_
 rintro e w2 ⟨g,cap,l',c',rfl,ho,hb2⟩
 obtain ⟨W3,hW3⟩:∃ W3,W3=w2.alloc (.cells #[.int .i64 1,.slice (some ⟨g,0,none⟩) 1 cap,.int .u64 5] 25):=⟨_,rfl⟩
 have hb3:Below w2.heap.size w2 W3:=by rw [hW3];exact bel1 _ _
 have hN3:W3.heap[w2.heap.size]? =some (.cells #[.int .i64 1,.slice (some ⟨g,0,none⟩) 1 cap,.int .u64 5] 25):=by rw [hW3];exact new_1 w2 _
 have ho3:=own_belG ho hb3
 have hbw3:=bt (bt HB1.out hb2) hb3
 have HW3:=hid_of hW3
 have HN3:=hid_of hN3
 have HO3:=hid_of ho3
 have HB3:=hid_of hbw3
 clear HA HW1 HB1 ho hb2 hb3 hN3 ho3 hbw3 hW3
 go_upto_region 2 with fail
 rw [show w2.alloc (.cells #[.int .i64 1,.slice (some ⟨g,0,none⟩) 1 cap,.int .u64 5] 25)=W3 from HW3.out.symm]
 clear HW3
 obtain ⟨W4,hW4⟩:∃ W4,W4=W3.alloc (.cells byB 5 (11,12)):=⟨_,rfl⟩
 have hb4:Below W3.heap.size W3 W4:=by rw [hW4];exact bel1 _ _
 have hN4:W4.heap[W3.heap.size]? =some (.cells (Lib.byteCells tB0).toArray 5 (11,12)):=by rw [hW4,byB_eq];exact new_1 W3 _
 have D4:La.HidC _ _ _ _ _:=HBp.out W4 W3.heap.size (bt HB3.out hb4) hN4
 have HW4:=hid_of hW4
 have HB4:=hid_of hb4
 clear HBp hW4 hb4 hN4
 go_wp2_with fail
 rw [← HW4.out]
 refine (D4.out).mono ?_
 rintro e w5 ⟨rfl,hb5⟩
 have hb5':=bt HB4.out hb5
 obtain ⟨W6,hW6⟩:∃ W6,W6=w5.alloc (.cells #[.int .i64 0,.slice none 0 0,.int .u64 0] 25):=⟨_,rfl⟩
 have hb6:Below W3.heap.size W3 W6:=bt hb5' (by rw [hW6];exact bel1 _ _)
 obtain ⟨s0,s1,s2,-⟩:=three_cells (hkN' HN3.out hb6)
 have r5:W6.cell? ⟨g,5,none⟩=some (.int .u64 7):=(own_row (own_belG HO3.out hb6) rfl 0 (by simp)).c5
 have HB6:=hid_of (bt HB3.out hb6)
 have HW6:=hid_of hW6
 clear D4 HW4 HB4 HN3 HO3 HB3 hb5 hb5' hb6 hW6
 go_upto_region 3 with fail
 rw [← HW6.out]
 clear HW6
 go_wp2_with fail
 go_ret
 exact ⟨rfl,HB6.out⟩
theorem idx_ge {p:Int} {C:List Cn} (h:MayIs p C 0):∀ (i:Nat) (hi:i < C.length),(i:Int)≤C[i].1
 | 0,hi=>by have:=((may_ok h).2.2 0 hi).1;omega
 | i+1,hi=>by
  have h1:=idx_ge h i (by omega)
  have h2:=may_rise h (i+1) i hi (by omega) (by omega)
  omega
theorem top_idx:∀ q,q≤14→(64 - q)*2 ^ q≤1048576:=by decide
theorem cs_len {p:Nat} (hp:p≤14) {C:List Cn} (h:MayIs (p:Int) C 0):C.length≤1048576:=by
 rcases Nat.eq_zero_or_pos C.length with h0 | h0
 ·omega
 ·have h1:=idx_ge h (C.length - 1) (by omega)
  have h2:=((may_ok h).2.2 (C.length - 1) (by omega)).2.1
  have h3:=top_idx p hp
  rw [Int.toNat_natCast] at h2
  omega
theorem va_w {p:Nat} (hp:p≤14) {x:Vl} (h:Vok p x):VaW x∧VW x∧x.cs.length≤1048576:=by
 have hk:=chkD_z h.1
 have hc:x.cs.length≤1048576:=by
  have hb:=h.2.1
  rcases hk.k with k | k | k
  ·unfold holdB at hb
   rw [if_pos k] at hb
   simp only [Bool.and_eq_true,decide_eq_true_eq] at hb
   omega
  ·exact cs_len hp (hold_may hb k)
  ·unfold holdB at hb
   rw [if_neg (by omega),if_neg (by omega)] at hb
   simp only [Bool.and_eq_true,decide_eq_true_eq] at hb
   omega
 have l1:=hk.sho.len [95,115,117,109] (by decide)
 have l2:=hk.sho.len [95,99,111,117,110,116] (by decide)
 rw [List.append_nil] at l1 l2
 exact ⟨⟨by have:=(plain_z hk.n).2.1;omega,hc,fun q hq=>by have:=(hk.v q hq).2;omega,by omega,by omega⟩,h.2.2,hc⟩
theorem parse_back {s:Sn} {p:Nat} (hp:s.p=(p:Int)) (hS:SnW s) (h:(chkS s).1=0) (g cap B:Nat) (w:World) (hm:Mx w) (ht:Wi.Tab w) (hl:(exL (vlL p) s).flatten.length≤4194304)
  (ho:w.ownsRow B 5 1 (.slice (some ⟨g,0,none⟩) (exL (vlL p) s).flatten.length cap) (exL (vlL p) s).flatten.length (Lib.byteCells (exL (vlL p) s).flatten)) :
  Calls Tryz.prog 7 #[.slice (some ⟨g,0,none⟩) (exL (vlL p) s).flatten.length cap] w fun e w'=>∃ ao n c,e=.returned (.tuple #[.agg #[.int .i64 s.p,.slice ao n c,.int .u64 (s.r:Int)],.int .i64 0,.int .i64 0])∧SV w' (.slice ao n c) s.vs∧Below w.heap.size w w':=by
 obtain ⟨T1,T2,fs,k,h1,h2,h3,h4,h5,h6⟩:=ex_read hp hS h hl
 obtain ⟨⟨p1,p2⟩,-⟩:=chkS_p h
 have hA:AlW p s.r [] (fmV fs) 2:=by
  rw [h3]
  exact alw_all (by rw [← hp];exact h) (fun x hx=>va_w (p:=p) (by omega) (by obtain ⟨a,b⟩:=chkS_z h x hx;rw [hp] at b;exact ⟨a,b,hS.vs x hx⟩))
 refine (parse_all _ T1 T2 g cap p s.r k fs w hm ht (by omega) h1 (by omega) (by omega) h2 h6 hA h4 (fun W hb=>conv_own (own_belG ho hb))).mono ?_
 rintro e w' ⟨v,R,hY,rfl,ho',he,hb⟩
 obtain ⟨ao,g',c,rfl,-⟩:=own_slice ho'
 refine ⟨ao,R.length,c,by rw [hp],?_,hb⟩
 rw [← h3,← hY]
 exact (GV.mk (W0:=w') (B:=w.heap.size) ho' (Below.refl _ _) hb.size).sv (fun q hq=>⟨own_slb (he q hq).1,own_snc (he q hq).2 hb.size⟩)
structure Rb (w:World) (s:Sn) (us ux:Value) (g:Nat) (W:World):Prop where
 g1:W.heap[w.heap.size]? =some (.cells #[.int .i64 s.p,us,.int .u64 (s.r:Int)] 25 (0,0))
 g2:W.heap[g]? =some (.cells #[.int .i64 s.p,ux,.int .u64 (s.r:Int)] 25 (0,0))
 bl:Below w.heap.size w W
 sv:SV W ux s.vs
theorem Rb.below {w W W1:World} {s:Sn} {us ux:Value} {g:Nat} (h:Rb w s us ux g W) (hb:Below W.heap.size W W1):Rb w s us ux g W1:=⟨hkN h.g1 hb,hkN h.g2 hb,bt h.bl hb,h.sv.below hb⟩
abbrev S8r (w:World) (s:Sn) (us ux:Value) (g:Nat) (W:World):Prop :=
 (W.cell? ⟨w.heap.size,0,none⟩=some (.int .i64 s.p)∧W.cell? ⟨w.heap.size,1,none⟩=some us∧W.cell? ⟨w.heap.size,2,none⟩=some (.int .u64 (s.r:Int))) ∧
 (W.cell? ⟨g,0,none⟩=some (.int .i64 s.p)∧W.cell? ⟨g,1,none⟩=some ux∧W.cell? ⟨g,2,none⟩=some (.int .u64 (s.r:Int)))∧Hid (Rb w s us ux g W)
theorem s8r_of {w W:World} {s:Sn} {us ux:Value} {g:Nat} (h:Rb w s us ux g W):S8r w s us ux g W:=by
 obtain ⟨c0,c1,c2,_⟩:=three_cells h.g1
 obtain ⟨d0,d1,d2,_⟩:=three_cells h.g2
 exact ⟨⟨c0,c1,c2⟩,⟨d0,d1,d2⟩,h⟩
theorem returns_walk (s:Sn) (v:Value) (hS:SnW s) (w:World) (hv:SnAt w s v) (ht:Wi.Tab w) (hm:Mx w) :
  Calls Tryz.prog 3 #[v] w fun e w'=>e=.returned (.bool true)∧Below w.heap.size w w':=by
 have HAw:Hid (∀ W,Below w.heap.size w W→Calls Tryz.prog 4 #[] W fun e w'=>e=.returned (.bool true)∧Below W.heap.size W w'):=fun W k=>awake_any W (hm.below k) (ht.below k)
 have HCk:Hid (∀ W,Below w.heap.size w W→Calls Tryz.prog 5 #[v] W fun e w'=>e=two (chkS s).1 ((chkS s).2:Nat)∧Below W.heap.size W w'):=fun W k=>check_any s v hS W (hv.below k)
 have HWr:Hid (∀ W,Below w.heap.size w W→Calls Tryz.prog 6 #[v] W fun e w'=>WrQ W s (exL (vlL s.p.toNat) s) e w'∧Below W.heap.size W w'):=fun W k=>write_any (vlL s.p.toNat) s v hS W (hv.below k) (ht.below k) (wv_all hS (ht.below k) (hm.below k).g)
 have HPa:Hid (∀ (W0 W:World) (xn xc:Nat),Below w.heap.size w W→(chkS s).1=0→(wrL [] (exL (vlL s.p.toNat) s)).2=true→xn=(exL (vlL s.p.toNat) s).flatten.length→∀ xo,W.ownsRow W0.heap.size 5 1 (.slice xo xn xc) xn (Lib.byteCells (exL (vlL s.p.toNat) s).flatten)→Calls Tryz.prog 7 #[.slice xo xn xc] W fun e w'=>∃ ao n c,e=.returned (.tuple #[.agg #[.int .i64 s.p,.slice ao n c,.int .u64 (s.r:Int)],.int .i64 0,.int .i64 0])∧SV w' (.slice ao n c) s.vs∧Below W.heap.size W w'):=fun W0 W xn xc k k1 k2 k3 xo k4=>by
  subst k3
  obtain ⟨⟨p1,p2⟩,-⟩:=chkS_p k1
  obtain ⟨P,hP⟩:=Int.eq_ofNat_of_zero_le (show 0≤s.p by omega)
  have eP:s.p.toNat=P:=by rw [hP,Int.toNat_natCast]
  rw [eP] at k2 k4 ⊢
  have hl:(exL (vlL P) s).flatten.length≤4194304:=by
   rcases (wrL_all _ _).1 k2 with q | q
   ·rw [q];simp
   ·have:=fit_len q
    simpa using this
  have hne:(exL (vlL P) s).flatten.length≠0:=by
   unfold exL gnT lnT
   simp
  rcases k4.2 with ⟨q1,q2⟩ | ⟨g,cap,cur,q1,q2⟩
  ·exact absurd q2 hne
  ·cases q1
   exact parse_back hP hS k1 g _ W0.heap.size W (hm.below k) (ht.below k) hl k4
 have HS1:Hid (∀ W ux,Below w.heap.size w W→SV W ux s.vs→Calls Tryz.prog 8 #[.agg #[.int .i64 s.p,ux,.int .u64 (s.r:Int)],v] W fun e w'=>e=.returned (.bool true)∧Below W.heap.size W w'):=fun W ux k q=>by
  have:=csames_any s s _ v hS hS W ⟨ux,rfl,q⟩ (hv.below k)
  rw [smS_refl] at this
  exact this
 have HS2:Hid (∀ W ux,Below w.heap.size w W→SV W ux s.vs→Calls Tryz.prog 9 #[.agg #[.int .i64 s.p,ux,.int .u64 (s.r:Int)],v] W fun e w'=>e=.returned (.bool true)∧Below W.heap.size W w'):=fun W ux k q=>by
  have:=rsames_any s s _ v hS hS W ⟨ux,rfl,q⟩ (hv.below k)
  rw [smS_refl] at this
  exact this
 obtain ⟨us,rfl,su⟩:=hv
 obtain ⟨ao,b1,o1,cap,rfl,-,-,-,-⟩:=su.open
 obtain ⟨W0,hW0⟩:∃ W0,W0=w.alloc (.cells #[.int .i64 s.p,.slice ao s.vs.length cap,.int .u64 (s.r:Int)] 25):=⟨_,rfl⟩
 have hN0:W0.heap[w.heap.size]? =some (.cells #[.int .i64 s.p,.slice ao s.vs.length cap,.int .u64 (s.r:Int)] 25 (0,0)):=by rw [hW0];exact new_1 w _
 have hb0:Below w.heap.size w W0:=by rw [hW0];exact bel1 _ _
 have HN0:=hid_of hN0
 have HB0:=hid_of hb0
 have HW0:=hid_of hW0
 clear su hS ht hm hW0 hN0 hb0
 go_enter Tryz.func3,Tryz.ntmps3
 go_upto_region 1 with fail
 rw [← HW0.out]
 clear HW0
 go_wp2_with fail
 refine Calls.mono (HAw.out _ HB0.out) ?_
 rintro e w1 ⟨rfl,hb1⟩
 have HN1:=hid_of (hkN HN0.out hb1)
 have HB1:=hid_of (bt HB0.out hb1)
 obtain ⟨c0,c1,c2,_⟩:=three_cells HN1.out
 have D1:La.HidC _ _ _ _ _:=HCk.out w1 HB1.out
 clear HAw HCk hb1 HN0 HB0
 go_wp2_with fail
 refine Calls.mono D1.out ?_
 rintro e w2 ⟨rfl,hb2⟩
 have HN2:=hid_of (hkN HN1.out hb2)
 have HB2:=hid_of (bt HB1.out hb2)
 obtain ⟨d0,d1,d2,_⟩:=three_cells HN2.out
 have D2:La.HidC _ _ _ _ _:=HWr.out w2 HB2.out
 clear HWr hb2 HN1 HB1 c0 c1 c2 D1
 generalize (chkS s).2=zi at *
 go_wp2_with fail
 refine Calls.mono D2.out ?_
 rintro e w3 ⟨hq,hb3⟩
 have HN3:=hid_of (hkN HN2.out hb3)
 have HB3:=hid_of (bt HB2.out hb3)
 clear D2 hb3 d0 d1 d2 HN2 HB2
 rcases hq with ⟨h1,rfl⟩ | ⟨h1,-,rfl⟩ | ⟨h1,h2,xo,xc,rfl,ho⟩
 ·have hz:((chkS s).1 != 0)=true:=by rw [bne_iff_ne];exact h1
  clear HPa h1
  generalize (chkS s).1=z at *
  go_wp2_with fail
  go_ret
  exact ⟨by simp,HB3.out⟩
 ·clear HPa
  generalize (chkS s).1=z at *
  subst h1
  go_wp2_with fail
  go_ret
  exact ⟨rfl,HB3.out⟩
 ·have D3:La.HidC _ _ _ _ _:=HPa.out w2 w3 _ xc HB3.out h1 h2 rfl xo ho
  clear HPa ho h2
  generalize (chkS s).1=z at *
  generalize (exL (vlL s.p.toNat) s).flatten.length=xn at *
  subst h1
  go_wp2_with fail
  refine Calls.mono D3.out ?_
  rintro e w4 ⟨yo,yn,yc,rfl,hsv,hb4⟩
  obtain ⟨W5,hW5⟩:∃ W5,W5=w4.alloc (.cells #[.int .i64 s.p,.slice yo yn yc,.int .u64 (s.r:Int)] 25):=⟨_,rfl⟩
  have hb5:Below w4.heap.size w4 W5:=by rw [hW5];exact bel1 _ _
  have hN5:W5.heap[w4.heap.size]? =some (.cells #[.int .i64 s.p,.slice yo yn yc,.int .u64 (s.r:Int)] 25 (0,0)):=by rw [hW5];exact new_1 w4 _
  have hS:=s8r_of (⟨hkN (hkN HN3.out hb4) hb5,hN5,bt (bt HB3.out hb4) hb5,hsv.below hb5⟩:Rb w s (.slice ao s.vs.length cap) (.slice yo yn yc) w4.heap.size W5)
  have HW5:=hid_of hW5
  clear D3 hb4 hb5 hN5 hsv hW5 HN3 HB3
  go_upto_region 8 with fail
  rw [← HW5.out]
  clear HW5
  generalize w4.heap.size=g at *
  obtain ⟨⟨c0,c1,c2⟩,⟨d0,d1,d2⟩,HR⟩:=hS
  have D4:La.HidC _ _ _ _ _:=HS1.out W5 (.slice yo yn yc) HR.out.bl HR.out.sv
  clear HS1
  go_wp2_with fail
  refine Calls.mono D4.out ?_
  rintro e w6 ⟨rfl,hb6⟩
  have H6:=hid_of (HR.out.below hb6)
  clear D4 HR hb6 c0 c1 c2 d0 d1 d2
  obtain ⟨⟨c0,c1,c2⟩,⟨d0,d1,d2⟩,-⟩:=s8r_of H6.out
  have D5:La.HidC _ _ _ _ _:=HS2.out w6 (.slice yo yn yc) H6.out.bl H6.out.sv
  clear HS2
  go_wp2_with fail
  refine Calls.mono D5.out ?_
  rintro e w7 ⟨rfl,hb7⟩
  have H7:=hid_of (bt H6.out.bl hb7)
  clear D5 H6 hb7 c0 c1 c2 d0 d1 d2
  go_wp2_with fail
  go_ret
  exact ⟨rfl,H7.out⟩
end Go.Proofs.YtfkbjdgbpenflaaGreatDoor.Sc
