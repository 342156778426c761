/- THE ITERATOR of the sums. Own work of the verifier. -/
import Derived.Test.YtlgkfeeclgcgbaaGreatDoorZAB
import Derived.Test.YtlgkfeeclgcgbaaGreatDoorZAA
import Derived.Sort.CutIn
import Derived.Test.YtlgkfeeclgcgbaaGreatDoorShelf
set_option maxRecDepth 100000
set_option maxHeartbeats 4000000
namespace Go.Proofs.YtlgkfeeclgcgbaaGreatDoor
open Go.RowKit Go.Shelf
attribute [local go_sem] Oper.semAt_some
def sN (L:List Cn) (i:Nat):Nat:=sumN (L.take i)
def encS (L:List Cn) (i:Nat):Array Value :=
 #[.agg #[.int .i64 (L.getD i (0,0)).1,.int .u64 ((L.getD i (0,0)).2:Int)],.agg #[.int .i64 ((sN L (i+1) / 18446744073709551616:Nat):Int),.int .u64 ((sN L (i+1) % 18446744073709551616:Nat):Int)]]
theorem sN_le {L:List Cn} (hW:Wc L) (i:Nat):sN L i≤18446744073709551616*i:=by
 induction i with
 | zero=>simp [sN,sumN]
 | succ i ih =>
  by_cases h:i < L.length
  ·unfold sN at *;rw [sumN_take L i h];have:=(hW _ (List.getElem_mem h)).2.2;omega
  ·unfold sN at *;rw [List.take_of_length_le (by omega)];rw [List.take_of_length_le (by omega)] at ih;omega
theorem sN_succ {L:List Cn} {i:Nat} (h:i < L.length):sN L (i+1)=sN L i+(L.getD i (0,0)).2:=by
 unfold sN;rw [sumN_take L i h];simp [List.getD,h]
theorem cell_0 {W:World} {b:Nat} {u v:Value} {t:TypeId} (h:W.heap[b]? =some (.cells #[u,v] t (0,0))):W.cell? ⟨b,0,none⟩=some u:=by simp [World.cell?,h]
theorem cell_1 {W:World} {b:Nat} {u v:Value} {t:TypeId} (h:W.heap[b]? =some (.cells #[u,v] t (0,0))):W.cell? ⟨b,1,none⟩=some v:=by simp [World.cell?,h]
theorem froz_0 {W:World} {b:Nat} {u v:Value} {t:TypeId} (h:W.heap[b]? =some (.cells #[u,v] t (0,0))):W.frozen? ⟨b,0,none⟩=false:=by simp [World.frozen?,h]
theorem froz_1 {W:World} {b:Nat} {u v:Value} {t:TypeId} (h:W.heap[b]? =some (.cells #[u,v] t (0,0))):W.frozen? ⟨b,1,none⟩=false:=by simp [World.frozen?,h]
theorem keep_0 {W W':World} {p:Addr} {v:Value} (hk:Below W.heap.size W W') (h:W.cell? p=some v):W'.cell? p=some v:=(hk.cell (lt_of_cell h)).trans h
theorem set_2 {W:World} {b:Nat} {u v:Value} {t:TypeId} (x y:Value) (h:W.heap[b]? =some (.cells #[u,v] t (0,0))):((W.setCell ⟨b,0,none⟩ x).setCell ⟨b,1,none⟩ y).heap[b]? =some (.cells #[x,y] t (0,0)):=by
 obtain ⟨hlt,hk⟩:=Array.getElem?_eq_some_iff.1 h
 have h1:(W.setCell ⟨b,0,none⟩ x).heap[b]? =some (.cells #[x,v] t (0,0)):=by
  show (W.heap.modify b _)[b]? =_
  rw [Array.getElem?_eq_getElem (by rw [Array.size_modify];exact hlt),Array.getElem_modify_self,hk]
  rfl
 obtain ⟨hlt1,hk1⟩:=Array.getElem?_eq_some_iff.1 h1
 show ((W.setCell ⟨b,0,none⟩ x).heap.modify b _)[b]? =_
 rw [Array.getElem?_eq_getElem (by rw [Array.size_modify];exact hlt1),Array.getElem_modify_self,hk1]
 rfl
theorem hid_keep {W W':World} {b:Nat} {o:Obj} (hk:Below W.heap.size W W') (h:Hid (W.heap[b]? =some o)):Hid (W'.heap[b]? =some o):=(hk.block b (Array.getElem?_eq_some_iff.1 h).1).trans h
theorem sums_seq (m Bs n0 B:Nat) (ao:Option Addr) (b o cap:Nat) (L:List Cn) (hao:L≠[]→ao=some ⟨b,o,none⟩) (hW:Wc L) (hl:L.length≤8796093022208) (w:World) (hBs:w.cell? ⟨Bs,0,none⟩=some (.slice ao L.length cap)) (hB:B≤Bs) (hR:RowC w b o L) (hb:L≠[]→b < n0) (hn:n0≤B) :
  Seq Tryz.prog m 136 #[.pointer (some ⟨Bs,0,none⟩)] n0 B L.length (encS L) w:=by
 intro l J Jx W hWb hsz hJ hJx hY h0
 have hBlt:Bs < w.heap.size:=lt_of_cell hBs
 have hBs1:W.cell? ⟨Bs,0,none⟩=some (.slice ao L.length cap):=(hWb.cell (p:=⟨Bs,0,none⟩) hBlt).trans hBs
 have hR1:RowC W b o L:=hR.below hWb (fun k=>by have:=hb k;omega)
 have hal:Below W.heap.size W (W.alloc (.cells #[.int .i64 0,.int .u64 0] 83)):=(Below.refl _ _).alloc (Nat.le_refl _) _
 have hBs2:(W.alloc (.cells #[.int .i64 0,.int .u64 0] 83)).cell? ⟨Bs,0,none⟩=some (.slice ao L.length cap):=(hal.cell (p:=⟨Bs,0,none⟩) (by show Bs < _;omega)).trans hBs1
 have HL:Hid (∀ k,k≠0→k≤L.length→L≠[]):=fun k h1 h2 e=>by rw [e] at h2;simp at h2;omega
 have HN:Hid (n0≤W.heap.size):=by unfold Hid;omega
 have HU:Hid (∀ (n:Nat) W,n < 18446744073709551616→CallsIn Fence.wide (m - 1) Tryz.prog 137 #[.int .u64 (n:Int)] W fun e w'=>e=.returned (.agg #[.int .i64 0,.int .u64 (n:Int)])∧Below W.heap.size W w'):=fun n W h=>callsIn_wide.2 ((uns_any (n:Int) (by omega) (by omega) W).mono (by
  rintro e w' ⟨rfl,hb⟩
  refine ⟨?_,hb⟩
  unfold num hiOf loOf
  rw [show (n:Int) / 18446744073709551616=0 by omega,show (n:Int) % 18446744073709551616=(n:Int) by omega]))
 have HA:Hid (∀ (s n:Nat) W,s+n < 18446744073709551616*17592186044416→n < 18446744073709551616→CallsIn Fence.wide (m - 1) Tryz.prog 88 #[.agg #[.int .i64 ((s / 18446744073709551616:Nat):Int),.int .u64 ((s % 18446744073709551616:Nat):Int)],.agg #[.int .i64 0,.int .u64 (n:Int)]] W fun e w'=>e=.returned (.agg #[.int .i64 (((s+n) / 18446744073709551616:Nat):Int),.int .u64 (((s+n) % 18446744073709551616:Nat):Int)])∧Below W.heap.size W w'):=fun s n W h hn'=>callsIn_wide.2 ((add_any _ _ _ _ ⟨by omega,by omega,by omega,by omega⟩ ⟨by omega,by omega,by omega,by omega⟩ W).mono (by
  rintro e w' ⟨rfl,hb⟩
  refine ⟨?_,hb⟩
  have ev:rnd (val ((s / 18446744073709551616:Nat):Int) ((s % 18446744073709551616:Nat):Int)+val 0 (n:Int))=((s+n:Nat):Int):=by unfold rnd val;omega
  rw [ev]
  unfold num hiOf loOf
  rw [show ((s+n:Nat):Int) / 18446744073709551616=(((s+n) / 18446744073709551616:Nat):Int) by omega,show ((s+n:Nat):Int) % 18446744073709551616=(((s+n) % 18446744073709551616:Nat):Int) by omega]))
 refine callsIn_of_wp Tryz.func136 rfl trivial ?_ rfl
 simp only [Tryz.ntmps136,List.size_toArray,List.length_cons,List.length_nil,Nat.reduceAdd,Nat.reduceSub,Array.replicate_succ,Array.replicate_zero,List.push_toArray,List.append_toArray,List.nil_append,List.cons_append]
 have hnew:(W.alloc (.cells #[.int .i64 0,.int .u64 0] 83)).heap[W.heap.size]? =some (.cells #[.int .i64 0,.int .u64 0] 83 (0,0)):=World.alloc_heap_new W _
 have HS0:Hid (sN L 0=0):=rfl
 gi_wp2
 generalize hW1:W.alloc (.cells #[.int .i64 0,.int .u64 0] 83)=W1 at *
 have HB1:Hid (Below W.heap.size W W1):=hal
 have HC1:Hid (W1.heap[W.heap.size]? =some (.cells #[.int .i64 0,.int .u64 0] 83 (0,0))):=hnew
 clear hal hBs2 hW1 hnew
 gi_loopw [9] (fun i wr=>∃ k:Nat,k≤L.length∧i=.int .i64 k∧J k wr∧Hid (RowC wr b o L)∧Hid (wr.heap[W.heap.size]? =some (.cells #[.int .i64 ((sN L k / 18446744073709551616:Nat):Int),.int .u64 ((sN L k % 18446744073709551616:Nat):Int)] 83 (0,0))))
  (fun i _=>L.length - (intOf i).toNat)
 case atStart=>exact ⟨0,Nat.zero_le _,rfl,hJ _ _ _ h0 HB1.out,hR1.below HB1.out (fun k=>by have:=hb k;have:=HN.out;omega),by rw [HS0.out];exact HC1.out⟩
 case round =>
  obtain ⟨k,hk,rfl,hJs,HR,HC⟩:=hrel
  by_cases hlt:k < L.length
  ·have hlt':(k:Int) < (L.length:Int):=by omega
   obtain rfl:=hao (by intro e;rw [e] at hlt;simp at hlt)
   obtain ⟨q1,q2⟩:=HR.out k hlt
   have hsz2:W.heap.size < wr.heap.size:=(Array.getElem?_eq_some_iff.1 HC.out).1
   have hx1:L.getD k (0,0)=L[k]:=by simp [List.getD,hlt]
   have HSS:Hid (sN L (k+1)=sN L k+(L.getD k (0,0)).2):=sN_succ hlt
   have HE:Hid (∀ A:World,J k A→YieldAt Fence.wide (m - 1) Tryz.prog l (encS L k) A fun e W'=>(e=.returned (.bool true)∧Mid n0 B A W'∧J (k+1) W')∨(e=.returned (.bool false)∧Jx (k+1) W')):=fun A hA=>hY k A hlt hA
   have hy2:L[k].2 < 18446744073709551616:=(hW _ (List.getElem_mem hlt)).2.2
   have hsk:sN L k≤18446744073709551616*8796093022208:=by have:=sN_le hW k;omega
   unfold encS at HE
   rw [HSS.out,hx1] at HE
   rw [hx1] at HSS
   have HBW:Hid (W.heap.size+0 < wr.heap.size):=hsz2
   obtain ⟨x,y,hxy⟩:∃ x y,L[k]=(x,y):=⟨_,_,rfl⟩
   rw [hxy] at q1 q2 HE HSS hy2
   clear hxy hx1 hY
   dsimp only at HE HSS hy2
   generalize sN L k=s at *
   have HCk:Hid (W.heap.size < wr.heap.size):=hsz2
   gi_upto_region 4 with fail
   have hbA:Below wr.heap.size wr (wr.alloc (.cells #[.int .i64 x,.int .u64 (y:Int)] 174)):=(Below.refl _ _).alloc (Nat.le_refl _) _
   have hnew:(wr.alloc (.cells #[.int .i64 x,.int .u64 (y:Int)] 174)).heap[wr.heap.size]? =some (.cells #[.int .i64 x,.int .u64 (y:Int)] 174 (0,0)):=World.alloc_heap_new wr _
   have hsumA:=(hbA.block W.heap.size hsz2).trans HC.out
   generalize hWA:wr.alloc (.cells #[.int .i64 x,.int .u64 (y:Int)] 174)=WA at *
   have HAB:Hid (Below wr.heap.size wr WA):=hbA
   clear hWA hbA q1 q2
   refine wpIn_wide.2 ?_
   have c1:WA.cell? ⟨wr.heap.size,1,none⟩=some (.int .u64 (y:Int)):=cell_1 hnew
   have s0:WA.cell? ⟨W.heap.size,0,none⟩=some (.int .i64 ((s / 18446744073709551616:Nat):Int)):=cell_0 hsumA
   have s1:WA.cell? ⟨W.heap.size,1,none⟩=some (.int .u64 ((s % 18446744073709551616:Nat):Int)):=cell_1 hsumA
   have HU1:Hid (∀ W,Calls Tryz.prog 137 #[.int .u64 (y:Int)] W fun e w'=>e=.returned (.agg #[.int .i64 0,.int .u64 (y:Int)])∧Below W.heap.size W w'):=fun W=>callsIn_wide.1 (HU.out y W hy2)
   have HA1:Hid (∀ W,Calls Tryz.prog 88 #[.agg #[.int .i64 ((s / 18446744073709551616:Nat):Int),.int .u64 ((s % 18446744073709551616:Nat):Int)],.agg #[.int .i64 0,.int .u64 (y:Int)]] W fun e w'=>e=.returned (.agg #[.int .i64 (((s+y) / 18446744073709551616:Nat):Int),.int .u64 (((s+y) % 18446744073709551616:Nat):Int)])∧Below W.heap.size W w'):=fun W=>callsIn_wide.1 (HA.out s y W (by omega) hy2)
   have HNW:Hid _:=hnew
   have HSM:Hid _:=hsumA
   clear hnew hsumA HU HA
   generalize ((s / 18446744073709551616:Nat):Int)=sh at *
   generalize ((s % 18446744073709551616:Nat):Int)=sl at *
   generalize hth:(((s+y) / 18446744073709551616:Nat):Int)=th at *
   generalize htl:(((s+y) % 18446744073709551616:Nat):Int)=tl at *
   have HTH:Hid _:=hth
   have HTL:Hid _:=htl
   clear hth htl
   have D0:Hid (WA.drew.cell? ⟨W.heap.size,0,none⟩=some (.int .i64 sh)):=s0
   have D1:Hid (WA.drew.cell? ⟨W.heap.size,1,none⟩=some (.int .u64 sl)):=s1
   have DN:Hid (WA.drew.heap[wr.heap.size]? =some (.cells #[.int .i64 x,.int .u64 (y:Int)] 174 (0,0))):=HNW.out
   have DS:Hid (WA.drew.heap[W.heap.size]? =some (.cells #[.int .i64 sh,.int .u64 sl] 83 (0,0))):=HSM.out
   go_region_with (first
    | (go_at_call 137;with_reducible refine (HU1.out _).mono ?_;rintro e w1 ⟨rfl,hk1⟩;have N1:=hid_keep hk1 DN;have S1:=hid_keep hk1 DS;have s0':=keep_0 hk1 D0.out;have s1':=keep_0 hk1 D1.out)
    | (go_at_call 88;with_reducible refine (HA1.out _).mono ?_;rintro e w2 ⟨rfl,hk2⟩;have N2:=hid_keep hk2 N1;have S2:=hid_keep hk2 S1;have s0':=keep_0 hk2 s0';have s1':=keep_0 hk2 s1';have f0:=froz_0 S2.out;have f1:=froz_1 S2.out))
   all_goals
    have hN3:((w2.setCell ⟨W.heap.size,0,none⟩ (.int .i64 th)).setCell ⟨W.heap.size,1,none⟩ (.int .u64 tl)).heap[wr.heap.size]? =some (.cells #[.int .i64 x,.int .u64 (y:Int)] 174 (0,0)):=(Below.heap_setCell _ _ _ _ (by have:=HCk.out;show wr.heap.size≠W.heap.size;omega)).trans ((Below.heap_setCell _ _ _ _ (by have:=HCk.out;show wr.heap.size≠W.heap.size;omega)).trans N2.out)
    have hS3:=set_2 (.int .i64 th) (.int .u64 tl) S2.out
    have hB3:Below W.heap.size wr ((w2.setCell ⟨W.heap.size,0,none⟩ (.int .i64 th)).setCell ⟨W.heap.size,1,none⟩ (.int .u64 tl)):=(((((HAB.out.mono (Nat.le_of_lt HCk.out)).drew).trans (hk1.mono (Nat.le_trans (Nat.le_of_lt HCk.out) HAB.out.size))).trans (hk2.mono (Nat.le_trans (Nat.le_of_lt HCk.out) (Nat.le_trans HAB.out.size hk1.size)))).setCell (p:=⟨W.heap.size,0,none⟩) (Nat.le_refl _) _).setCell (p:=⟨W.heap.size,1,none⟩) (Nat.le_refl _) _
    clear hk1 hk2 N2 S2 s0' s1' f0 f1 N1 S1 D0 D1 DN DS
    generalize ((w2.setCell ⟨W.heap.size,0,none⟩ (.int .i64 th)).setCell ⟨W.heap.size,1,none⟩ (.int .u64 tl))=W3 at *
    obtain ⟨fn,tmps,assign,body,hy,hRd⟩:=HE.out W3 (hJ _ _ _ hJs hB3)
    have c0':=cell_0 hN3
    have c1':=cell_1 hN3
    have t0':=cell_0 hS3
    have t1':=cell_1 hS3
    have HB3:Hid _:=hB3
    have HS3:Hid _:=hS3
    clear hB3 hS3 hN3
    gi_wp2
    refine ⟨fun h=>by simp [Fence.wide] at h,hRd.mono ?_⟩
    rintro e W4 (⟨rfl,hM,hJ4⟩ | ⟨rfl,hJx4⟩)
    ·have HM4:Hid (Mid n0 B W3 W4):=hM
     clear hM
     gi_wp2
     go_roundw
     case rel =>
      have hlt3:W.heap.size < W3.heap.size:=(Array.getElem?_eq_some_iff.1 HS3.out).1
      refine ⟨k+1,by omega,by simp,hJ4,(HR.out.below HB3.out (fun hL=>by have:=hb hL;have:=HN.out;omega)).below (HM4.out.toBelow (by have:=HN.out;omega)) hb,?_⟩
      rw [HSS.out,HTH.out,HTL.out]
      exact (HM4.out.block _ hlt3 (by omega)).trans HS3.out
     case measure=>simp [intOf];omega
    ·gi_wp2
     refine bodyPost_ret (results_none rfl _ _ _) rfl ?_
     exact ⟨⟨_,rfl⟩,.inr ⟨k+1,by omega,hJx4⟩⟩
  ·obtain rfl:k=L.length:=by omega
   have hlt':¬ (L.length:Int) < (L.length:Int):=by omega
   gi_wp2
   go_end0
   exact ⟨⟨_,rfl⟩,.inl hJs⟩
end Go.Proofs.YtlgkfeeclgcgbaaGreatDoor
/- Total, the code's. Own work of the verifier. -/
set_option maxRecDepth 100000
set_option maxHeartbeats 4000000
namespace Go.Proofs.YtlgkfeeclgcgbaaGreatDoor
open Go.RowKit Go.Shelf
attribute [local go_sem] Oper.semAt_some
theorem sums_in (m:Nat) (a:Option Addr) (len cap:Nat) (w:World) :
  CallsIn Fence.wide m Tryz.prog 113 #[.slice a len cap] w fun e w'=>e=.returned (.func (.func 136) #[] #[.pointer (some ⟨w.heap.size,0,none⟩)])∧w'=w.alloc (.cells #[.slice a len cap] 84):=by
 refine callsIn_of_wp Tryz.func113 rfl trivial ?_ rfl
 simp only [Tryz.ntmps113,List.size_toArray,List.length_cons,List.length_nil,Nat.reduceAdd,Nat.reduceSub,Array.replicate_succ,Array.replicate_zero,List.push_toArray,List.append_toArray,List.nil_append,List.cons_append]
 gi_wp2
 go_ret
 exact ⟨rfl,rfl⟩
theorem bx_below {W W':World} {b:Nat} {t:TypeId} {v:Value} {B:Nat} (h:Boxed W b t v) (hk:Below B W W') (hB:b < B):Boxed W' b t v:=(hk.block b hB).trans h
theorem tot_sN (L:List Cn):tot L=sN L L.length % 18446744073709551616:=by unfold tot sN sumN;rw [List.take_length]
theorem total_any (w:World) (v:Value) (L:List Cn) (hS:SN w v L) (hW:Wc L) (hl:L.length≤8796093022208) :
  Calls Tryz.prog 85 #[v] w fun e w'=>e=.returned (.int .u64 (tot L:Nat))∧Below w.heap.size w w':=by
 rw [tot_sN]
 obtain ⟨ao,b,o,cap,rfl,hao,hR⟩:=hS.sc
 refine (callsIn_wide (n:=5)).1 ?_
 have HSu:Hid (∀ W,_):=sums_in 4 ao L.length cap
 refine callsIn_of_wp_marks Tryz.func85 rfl trivial ?_ rfl
 simp only [Tryz.ntmps85,List.size_toArray,List.length_cons,List.length_nil,Nat.reduceAdd,Nat.reduceSub,Array.replicate_succ,Array.replicate_zero,List.push_toArray,List.append_toArray,List.nil_append,List.cons_append]
 gi_wp2_with (refine ⟨trivial,?_⟩;gi_at_call 113;refine (HSu.out _).mono ?_;rintro e w' ⟨rfl,rfl⟩)
 have bT:=(Boxed.new w 35 (.int .u64 0)).alloc (.cells #[.slice ao L.length cap] 84)
 have bS:=Boxed.new (w.alloc (.cells #[.int .u64 0] 35)) 84 (.slice ao L.length cap)
 rw [World.size_alloc] at bS
 have hB0:Below w.heap.size w ((w.alloc (.cells #[.int .u64 0] 35)).alloc (.cells #[.slice ao L.length cap] 84)):=((Below.refl _ w).alloc (Nat.le_refl _) _).alloc (by simp) _
 have hsz:((w.alloc (.cells #[.int .u64 0] 35)).alloc (.cells #[.slice ao L.length cap] 84)).heap.size=w.heap.size+2:=by simp
 obtain ⟨W0,hW0⟩:∃ W0,(w.alloc (.cells #[.int .u64 0] 35)).alloc (.cells #[.slice ao L.length cap] 84)=W0:=⟨_,rfl⟩
 rw [hW0] at bT bS hB0 hsz ⊢
 clear hW0
 have hRb:L≠[]→b < w.heap.size:=fun h=>hR.lt h
 refine wpIn_rangeFunc_seq (gf:=136) (lb:=#[.pointer (some ⟨w.heap.size+1,0,none⟩)]) (n0:=w.heap.size) (B:=w.heap.size+1) (N:=L.length) (encs:=encS L) rfl (enters_of Tryz.func136 (by kernel_rfl) rfl) (by omega)
  (sums_seq (5 - 1) (w.heap.size+1) w.heap.size (w.heap.size+1) ao b o cap L hao hW hl W0 bS.cell (Nat.le_refl _) (hR.below hB0 hRb) hRb (by omega)) (fun _=>rfl)
  (fun i W=>Boxed W w.heap.size 35 (.int .u64 ((sN L i % 18446744073709551616:Nat):Int))∧Below w.heap.size w W) (fun _ _ _=>False)
  (fun i A A' h k=>⟨bx_below h.1 k (by omega),h.2.trans (k.mono (by omega))⟩) (fun _ _ _ _ h _=>h) ⟨bT,hB0⟩ ?round ?done ?stop
 case round =>
  rintro l i W hi hl1 hl2 ⟨hBx,hBel⟩
  unfold encS
  gi_wp2
  refine ⟨(Below.refl _ _).alloc (Nat.le_refl _) _,?_⟩
  rintro W2 ⟨hBx2,hBel2⟩ hs2 hot
  have hnb:=(hot W.heap.size (by omega)).trans (World.alloc_heap_new W _)
  have c1:=cell_1 hnb
  have d0:=hBx2.cell
  have d1:=hBx2.frozen
  gi_wp2
  exact ⟨(Mid.refl _ _ _).setCell (p:=⟨w.heap.size,0,none⟩) (Or.inl ⟨Nat.le_refl _,Nat.lt_succ_self _⟩) _,hBx2.set _,hBel2.setCell (p:=⟨w.heap.size,0,none⟩) (Nat.le_refl _) _⟩
 case done =>
  rintro D W hD ⟨hBx,hBel⟩ hK
  have d0:=hBx.cell
  gi_wp2
  refine ⟨by simp,.inl ⟨_,_,rfl,run_takeDeferred hK,?_⟩⟩
  exact ⟨_,results_tmp rfl _ _ _,rfl,hBel.trans ((Below.refl _ _).grown (grownBy_putObj' _ _ _) (by have:=hBel.size;omega) (fun k e=>by cases e;omega))⟩
 case stop =>
  rintro D c i W _ _ h _
  exact h.elim
end Go.Proofs.YtlgkfeeclgcgbaaGreatDoor
/- At, the code's. Own work of the verifier. -/
namespace Go.Proofs.YtlgkfeeclgcgbaaGreatDoor
open Go.RowKit Go.Shelf
attribute [local go_sem] Oper.semAt_some
theorem cmp_sum (s r:Nat):cmp (val ((s / 18446744073709551616:Nat):Int) ((s % 18446744073709551616:Nat):Int)) (r:Int)=if s < r then -1 else if s=r then 0 else 1:=by
 have e:val ((s / 18446744073709551616:Nat):Int) ((s % 18446744073709551616:Nat):Int)=(s:Int):=by unfold val;omega
 rw [e]
 unfold cmp
 split <;> split <;> (try split) <;> omega
theorem compare_sum (s r:Nat) (hs:s < 18446744073709551616*17592186044416) (hr:r < 18446744073709551616) (w:World) :
  Calls Tryz.prog 82 #[.agg #[.int .i64 ((s / 18446744073709551616:Nat):Int),.int .u64 ((s % 18446744073709551616:Nat):Int)],.agg #[.int .i64 0,.int .u64 (r:Int)]] w fun e w' =>
   e=.returned (.int .i64 (if s < r then -1 else if s=r then 0 else 1))∧Below w.heap.size w w':=by
 refine (cmp_any _ _ _ _ ⟨by omega,by omega,by omega,by omega⟩ ⟨by omega,by omega,by omega,by omega⟩ w).mono ?_
 rintro e w' ⟨rfl,hb⟩
 refine ⟨?_,hb⟩
 rw [show val 0 (r:Int)=(r:Int) by unfold val;omega,cmp_sum]
theorem results_c1 {fn:Func} {t:Tmp} (h:fn.results=#[.cell t 25]) (tmps:Array Value) (w:World) (a:Addr) {x:Int} (ha:tmps[t]?.getD undef=.pointer (some a)) (hx:w.cell? a=some (.int .i64 x)):(results fn tmps).run Tryz.prog w=.ok (.int .i64 x) w:=by
 simp [results,h,ha,hx,go_sem]
theorem new_2 (W:World) (o1 o2:Obj):((W.alloc o1).alloc o2).heap[W.heap.size]? =some o1∧((W.alloc o1).alloc o2).heap[W.heap.size+1]? =some o2:=by
 refine ⟨(Below.heap_alloc _ _ _ (by simp)).trans (World.alloc_heap_new W _),?_⟩
 have:=World.alloc_heap_new (W.alloc o1) o2
 rwa [World.size_alloc] at this
theorem Mid.st {n0 B:Nat} {a w:World} (h:Mid n0 B a w) {b:Nat} (h1:n0≤b) (h2:b < B) (u:Value):Mid n0 B a (w.setCell ⟨b,0,none⟩ u):=h.setCell (p:=⟨b,0,none⟩) (Or.inl ⟨h1,h2⟩) u
theorem bl_st {B:Nat} {a w:World} (h:Below B a w) {b:Nat} (hp:B≤b) (u:Value):Below B a (w.setCell ⟨b,0,none⟩ u):=h.setCell (p:=⟨b,0,none⟩) hp u
theorem below_put {w W:World} {D:Nat} {o:Obj} (h:Below w.heap.size w W) (hD:w.heap.size≤D):Below w.heap.size w (W.putObj D o):=h.grown (grownBy_putObj' _ _ _) (by have:=h.size;omega) (fun k e=>by cases e;omega)
theorem bx_put {W:World} {b D:Nat} {t:TypeId} {v:Value} {o:Obj} (h:Boxed W b t v) (hne:b≠D):Boxed (W.putObj D o) b t v:=(World.putObj_heap_other hne).trans h
theorem not_deferred {W:World} {b D:Nat} {t:TypeId} {v:Value} {x:Option (List Deferred)} (h:Boxed W b t v) (hD:W.heap[D]? =some (.deferred x)):b≠D:=fun e=>by
 subst e
 have:=(show W.heap[b]? =_ from h).symm.trans hD
 cases this
end Go.Proofs.YtlgkfeeclgcgbaaGreatDoor
/- May, the code's. Own work of the verifier. -/
set_option maxRecDepth 100000
set_option maxHeartbeats 8000000
namespace Go.Proofs.YtlgkfeeclgcgbaaGreatDoor
open Go.RowKit Go.Shelf
attribute [local go_sem] Oper.semAt_some
def ahd (L:List Cn) (i:Nat):Int:=if i=0 then -1 else (L.getD (i - 1) (0,0)).1
theorem bad_as {N:Nat} {L:List Cn} {i:Nat} (hi:i < L.length) {x:Int} {y:Nat} (hx:(L.getD i (0,0)).1=x) (hy:(L.getD i (0,0)).2=y):bad N L i=if x < 0∨(N:Int)≤x then 2 else if x≤ahd L i then 15 else if y=0 then 16 else 0:=by
 have g:L.getD i (0,1)=L.getD i (0,0):=by simp [List.getD,hi]
 unfold bad ahd
 rw [g,hx,hy]
 by_cases c:x < 0∨(N:Int)≤x
 ·rw [if_pos c,if_pos c]
 ·rw [if_neg c,if_neg c]
  by_cases h0:i=0
  ·rw [if_pos h0,if_neg (fun h:0 < i∧_=>by omega),if_neg (show ¬ x≤-1 by omega)]
  ·rw [if_neg h0]
   have g1:L.getD (i - 1) (0,1)=L.getD (i - 1) (0,0):=by simp [List.getD,show i - 1 < L.length by omega]
   rw [g1]
   by_cases c1:x≤(L.getD (i - 1) (0,0)).1
   ·rw [if_pos ⟨by omega,c1⟩,if_pos c1]
   ·rw [if_neg (fun h=>c1 h.2),if_neg c1]
theorem ahd_succ (L:List Cn) (i:Nat):ahd L (i+1)=(L.getD i (0,0)).1:=by unfold ahd;rw [if_neg (by omega)];simp
theorem st_3 (W:World) {a b k:Nat} (x y z:Value) (h1:k≠a) (h2:k≠b):(((W.drew.setCell ⟨a,0,none⟩ x).setCell ⟨b,0,none⟩ y).setCell ⟨b,1,none⟩ z).heap[k]? =W.heap[k]? :=
 (Below.heap_setCell _ _ _ _ h2).trans ((Below.heap_setCell _ _ _ _ h2).trans (Below.heap_setCell _ _ _ _ h1))
theorem st_3a (W:World) {a b:Nat} {t u:TypeId} {v v0 v1:Value} (x y z:Value) (h:a≠b) (ha:Boxed W a t v) (hb:W.heap[b]? =some (.cells #[v0,v1] u (0,0))) :
  Boxed (((W.drew.setCell ⟨a,0,none⟩ x).setCell ⟨b,0,none⟩ y).setCell ⟨b,1,none⟩ z) a t x∧(((W.drew.setCell ⟨a,0,none⟩ x).setCell ⟨b,0,none⟩ y).setCell ⟨b,1,none⟩ z).heap[b]? =some (.cells #[y,z] u (0,0)) :=
 ⟨(Below.heap_setCell _ _ _ _ h).trans ((Below.heap_setCell _ _ _ _ h).trans (Boxed.set x (show Boxed W.drew a t v from ha))),set_2 y z ((Below.heap_setCell _ _ _ _ (fun e=>h e.symm)).trans (show W.drew.heap[b]? =_ from hb))⟩
theorem cell_b {W:World} {b:Nat} {v:Value} {t:TypeId} (h:W.heap[b]? =some (.cells #[v] t (0,0))):W.cell? ⟨b,0,none⟩=some v:=Boxed.cell h
theorem froz_b {W:World} {b:Nat} {v:Value} {t:TypeId} (h:W.heap[b]? =some (.cells #[v] t (0,0))):W.frozen? ⟨b,0,none⟩=false:=Boxed.frozen h
theorem keepT {W A B:World} {p q:Addr} {u v:Value} (h:Below A.heap.size A B) (k:A.cell? p=some u∧A.cell? q=some v∧Below W.heap.size W A):B.cell? p=some u∧B.cell? q=some v∧Below W.heap.size W B:=⟨keep_0 h k.1,keep_0 h k.2.1,bt k.2.2 h⟩
def mayI (w:World) (N:Nat) (L:List Cn) (i:Nat) (W:World):Prop:=(Boxed W w.heap.size 25 (.int .i64 0)∧Boxed W (w.heap.size+1) 3 (.int .i64 (N:Int))∧Boxed W (w.heap.size+1+1) 3 (.int .i64 (ahd L i))∧W.heap[w.heap.size+1+1+1]? =some (.cells #[.int .i64 ((sN L i / 18446744073709551616:Nat):Int),.int .u64 ((sN L i % 18446744073709551616:Nat):Int)] 83 (0,0)))∧Below w.heap.size w W∧Hid (∀ j,j < i→bad N L j=0)
def mayX (w:World) (N:Nat) (L:List Cn) (c:Code) (_:Nat) (W:World):Prop:=Hid (c=.ret)∧(∃ k e,k < L.length∧Hid ((∀ j,j < k→bad N L j=0)∧bad N L k=e∧e≠0)∧Boxed W w.heap.size 25 (.int .i64 e))∧Below w.heap.size w W
theorem of_max (W:World):Calls Tryz.prog 114 #[.int .i64 9223372036854775807] W fun e w'=>e=.returned (.agg #[.int .i64 0,.int .u64 9223372036854775807])∧Below W.heap.size W w' :=
 (of_any 9223372036854775807 (by decide) (by decide) W).mono (by
  rintro e w' ⟨rfl,hb⟩
  exact ⟨rfl,hb⟩)
theorem new_5 (W:World) (o0 o1 o2 o3 o4:Obj):((((((W.alloc o0).alloc o1).alloc o2).alloc o3).alloc o4).heap[W.heap.size]? =some o0∧(((((W.alloc o0).alloc o1).alloc o2).alloc o3).alloc o4).heap[W.heap.size+1]? =some o1∧(((((W.alloc o0).alloc o1).alloc o2).alloc o3).alloc o4).heap[W.heap.size+1+1]? =some o2 ∧
  (((((W.alloc o0).alloc o1).alloc o2).alloc o3).alloc o4).heap[W.heap.size+1+1+1]? =some o3∧(((((W.alloc o0).alloc o1).alloc o2).alloc o3).alloc o4).heap[W.heap.size+1+1+1+1]? =some o4)∧(((((W.alloc o0).alloc o1).alloc o2).alloc o3).alloc o4).heap.size=W.heap.size+5∧Below W.heap.size W (((((W.alloc o0).alloc o1).alloc o2).alloc o3).alloc o4):=by
 have p:∀ (A:World) (o:Obj) (k:Nat) (x:Obj),A.heap[k]? =some x→(A.alloc o).heap[k]? =some x:=fun A o k x h=>(Below.heap_alloc A o k (Array.getElem?_eq_some_iff.1 h).1).trans h
 have a0:=World.alloc_heap_new W o0
 have a1:=World.alloc_heap_new (W.alloc o0) o1
 have a2:=World.alloc_heap_new ((W.alloc o0).alloc o1) o2
 have a3:=World.alloc_heap_new (((W.alloc o0).alloc o1).alloc o2) o3
 have a4:=World.alloc_heap_new ((((W.alloc o0).alloc o1).alloc o2).alloc o3) o4
 simp only [World.size_alloc] at a1 a2 a3 a4
 exact ⟨⟨p _ _ _ _ (p _ _ _ _ (p _ _ _ _ (p _ _ _ _ a0))),p _ _ _ _ (p _ _ _ _ (p _ _ _ _ a1)),p _ _ _ _ (p _ _ _ _ a2),p _ _ _ _ a3,a4⟩,by simp,((bel3 _ _ _ _).alloc (by simp;omega) _).alloc (by simp;omega) _⟩
theorem may_bad (w:World) (ao:Option Addr) (n cap:Nat) (L:List Cn) (p:Int) (hp:¬ (1≤p∧p≤14)) :
  Calls Tryz.prog 84 #[.int .i64 p,.slice ao n cap] w fun e w'=>(∃ x,e=.returned (.int .i64 x)∧MayIs p L x)∧Below w.heap.size w w':=by
 refine (callsIn_wide (n:=5)).1 ?_
 have HL:Hid (∀ W,_):=len_no p hp
 have HM:Hid (MayIs p L 1):=Or.inl ⟨hp,rfl⟩
 clear hp
 refine callsIn_of_wp_marks Tryz.func84 rfl trivial ?_ rfl
 simp only [Tryz.ntmps84,List.size_toArray,List.length_cons,List.length_nil,Nat.reduceAdd,Nat.reduceSub,Array.replicate_succ,Array.replicate_zero,List.push_toArray,List.append_toArray,List.nil_append,List.cons_append]
 gi_wp2_with (refine ⟨trivial,?_⟩;gi_at_call 112;refine (callsIn_wide.2 (HL.out _)).mono ?_;rintro e w' ⟨rfl,rfl⟩)
 exact ⟨_,results_c1 rfl _ _ _ rfl (Boxed.cell (new_2 w _ _).1),⟨1,rfl,HM.out⟩,bel2 _ _ _⟩
theorem may_good (w:World) (ao:Option Addr) (b o cap:Nat) (p:Nat) (h1:1≤p) (h2:p≤14) (L:List Cn) (hao:L≠[]→ao=some ⟨b,o,none⟩) (hR:RowC w b o L) (hW:Wc L) (hl:L.length≤8796093022208) :
  Calls Tryz.prog 84 #[.int .i64 (p:Int),.slice ao L.length cap] w fun e w'=>(∃ x,e=.returned (.int .i64 x)∧MayIs (p:Int) L x)∧Below w.heap.size w w':=by
 refine (callsIn_wide (n:=5)).1 ?_
 have HL:Hid (∀ W,_):=len_yes p h1 h2
 have HN:Hid (0 < (64 - p)*2 ^ p):=Nat.mul_pos (by omega) (Nat.pow_pos (by decide))
 have HM:Hid (∀ e:Int,((∃ i,i < L.length∧(∀ j,j < i→bad ((64 - p)*2 ^ p) L j=0)∧bad ((64 - p)*2 ^ p) L i≠0∧e=bad ((64 - p)*2 ^ p) L i)∨((∀ j,j < L.length→bad ((64 - p)*2 ^ p) L j=0)∧e=if 9223372036854775807 < sumN L then 3 else 0))→MayIs (p:Int) L e):=fun e h=>Or.inr ⟨⟨by omega,by omega⟩,h⟩
 generalize (64 - p)*2 ^ p=N at *
 have HSu:Hid (∀ W,_):=sums_in 4 ao L.length cap
 have cN:((N:Int) == 0)=false:=by rw [beq_eq_false_iff_ne];have:=HN.out;omega
 refine callsIn_of_wp_marks Tryz.func84 rfl trivial ?_ rfl
 simp only [Tryz.ntmps84,List.size_toArray,List.length_cons,List.length_nil,Nat.reduceAdd,Nat.reduceSub,Array.replicate_succ,Array.replicate_zero,List.push_toArray,List.append_toArray,List.nil_append,List.cons_append]
 gi_wp2_with (first
  | (refine ⟨trivial,?_⟩;gi_at_call 112;refine (callsIn_wide.2 (HL.out _)).mono ?_;rintro e w' ⟨rfl,rfl⟩)
  | (refine ⟨trivial,?_⟩;gi_at_call 113;refine (HSu.out _).mono ?_;rintro e w' ⟨rfl,rfl⟩))
 obtain ⟨⟨b0,b1,b2,b3,bS⟩,hsz,hB0⟩:=new_5 w (.cells #[.int .i64 0] 25) (.cells #[.int .i64 (N:Int)] 3) (.cells #[.int .i64 (-1)] 3) (.cells #[.int .i64 0,.int .u64 0] 83) (.cells #[.slice ao L.length cap] 84)
 obtain ⟨W0,hW0⟩:∃ W0,(((((w.alloc (.cells #[.int .i64 0] 25)).alloc (.cells #[.int .i64 (N:Int)] 3)).alloc (.cells #[.int .i64 (-1)] 3)).alloc (.cells #[.int .i64 0,.int .u64 0] 83)).alloc (.cells #[.slice ao L.length cap] 84))=W0:=⟨_,rfl⟩
 rw [hW0] at b0 b1 b2 b3 bS hsz hB0 ⊢
 clear hW0
 have hRb:L≠[]→b < w.heap.size:=fun h=>hR.lt h
 have HSN:Hid (∀ k,k≤L.length→sN L k≤18446744073709551616*8796093022208):=fun k h=>by have:=sN_le hW k;omega
 have hmx:Tryz.prog.follows .mixedOrders=true:=by kernel_rfl
 have hls:Tryz.prog.follows .lateStores=true:=by kernel_rfl
 refine wpIn_rangeFunc_seq (gf:=136) (lb:=#[.pointer (some ⟨w.heap.size+1+1+1+1,0,none⟩)]) (n0:=w.heap.size) (B:=w.heap.size+1+1+1+1) (N:=L.length) (encs:=encS L) rfl (enters_of Tryz.func136 (by kernel_rfl) rfl) (by omega)
  (sums_seq (5 - 1) (w.heap.size+1+1+1+1) w.heap.size (w.heap.size+1+1+1+1) ao b o cap L hao hW hl W0 (Boxed.cell bS) (Nat.le_refl _) (hR.below hB0 hRb) hRb (by omega)) (fun _=>rfl)
  (mayI w N L)
  (mayX w N L)
  (fun i A A' h k=>⟨⟨bx_below h.1.1 k (by omega),bx_below h.1.2.1 k (by omega),bx_below h.1.2.2.1 k (by omega),(k.block _ (by omega)).trans h.1.2.2.2⟩,h.2.1.trans (k.mono (by omega)),h.2.2⟩)
  (fun c i A A' h k=>by
   obtain ⟨h1,⟨j,e,h2,h3,h4⟩,h5⟩:=h
   exact ⟨h1,⟨j,e,h2,h3,bx_below h4 k (by omega)⟩,h5.trans (k.mono (by omega))⟩) ⟨⟨b0,b1,b2,by rw [show sN L 0=0 from rfl];exact b3⟩,hB0,fun j hj=>by omega⟩ ?round ?done ?stop
 case round =>
  rintro l i W hi hl1 hl2 ⟨⟨h01,h11,h21,h31⟩,hBel,hbad⟩
  have hsi:=HSN.out (i+1) (by omega)
  have HBA:Hid _:=bad_as (N:=N) hi rfl rfl
  have HAS:Hid _:=ahd_succ L i
  unfold encS
  generalize hx:(L.getD i (0,0)).1=x at *
  generalize hy:(L.getD i (0,0)).2=y at *
  gi_wp2
  refine ⟨bel2 _ _ _,?_⟩
  rintro W2 ⟨⟨h02,h12,h22,h32⟩,hBel2,_⟩ hs2 hot
  have hnb:W2.heap[W.heap.size]? =some (.cells #[.int .i64 x,.int .u64 (y:Int)] 174 (0,0)):=(hot W.heap.size (by omega)).trans (new_2 W _ _).1
  have hnc:W2.heap[W.heap.size+1]? =some (.cells #[.int .i64 ((sN L (i+1) / 18446744073709551616:Nat):Int),.int .u64 ((sN L (i+1) % 18446744073709551616:Nat):Int)] 83 (0,0)):=(hot (W.heap.size+1) (by omega)).trans (new_2 W _ _).2
  clear hot h01 h11 h21 h31 hBel hx hy HSu HL HSN
  have a0:=cell_0 hnb
  have a1:=cell_1 hnb
  have a2:=cell_0 hnc
  have a3:=cell_1 hnc
  have r0:=h02.cell
  have r1:=h02.frozen
  have n0:=h12.cell
  have d0:=h22.cell
  have d1:=h22.frozen
  have t0:=cell_0 h32
  have t1:=cell_1 h32
  have t2:=froz_0 h32
  have t3:=froz_1 h32
  have H02:Hid _:=h02
  have H12:Hid _:=h12
  have H22:Hid _:=h22
  have H32:Hid _:=h32
  have HB2:Hid _:=hBel2
  have HNC:Hid _:=hnc
  clear h02 h12 h22 h32 hBel2 hnb hnc
  generalize hsh:((sN L (i+1) / 18446744073709551616:Nat):Int)=sh at *
  generalize hsl:((sN L (i+1) % 18446744073709551616:Nat):Int)=sl at *
  generalize ((sN L i / 18446744073709551616:Nat):Int)=th at *
  generalize ((sN L i % 18446744073709551616:Nat):Int)=tl at *
  have HSH:Hid _:=hsh
  have HSL:Hid _:=hsl
  have hst:∀ (e:Int),Hid (bad N L i=e)→e≠0→Mid w.heap.size (w.heap.size+1+1+1+1) W2 (W2.setCell ⟨w.heap.size,0,none⟩ (.int .i64 e))∧mayX w N L .ret (i+1) (W2.setCell ⟨w.heap.size,0,none⟩ (.int .i64 e)):=fun e he hne =>
   ⟨(Mid.refl _ _ _).st (Nat.le_refl _) (by omega) _,rfl,⟨i,e,hi,⟨hbad.out,he,hne⟩,Boxed.set _ H02.out⟩,bl_st HB2.out (Nat.le_refl _) _⟩
  have HST:Hid _:=hst
  clear hst hsh hsl
  generalize ahd L i=ah at *
  by_cases k1:x < 0
  ·have he:Hid (bad N L i=2):=by unfold Hid;rw [HBA.out,if_pos (Or.inl k1)]
   clear HBA
   gi_wp2
   exact HST.out 2 he (by decide)
  ·by_cases k2:(N:Int)≤x
   ·have he:Hid (bad N L i=2):=by unfold Hid;rw [HBA.out,if_pos (Or.inr k2)]
    clear HBA
    gi_wp2
    exact HST.out 2 he (by decide)
   ·by_cases k3:x≤ah
    ·have he:Hid (bad N L i=15):=by unfold Hid;rw [HBA.out,if_neg (by omega),if_pos k3]
     clear HBA
     gi_wp2
     exact HST.out 15 he (by decide)
    ·by_cases k4:y=0
     ·have he:Hid (bad N L i=16):=by unfold Hid;rw [HBA.out,if_neg (by omega),if_neg k3,if_pos k4]
      have k5:((y:Int) == 0)=true:=by rw [beq_iff_eq];omega
      clear HBA k4
      gi_wp2
      exact HST.out 16 he (by decide)
     ·have he:Hid (bad N L i=0):=by unfold Hid;rw [HBA.out,if_neg (by omega),if_neg k3,if_neg k4]
      have k5:((y:Int) == 0)=false:=by rw [beq_eq_false_iff_ne];omega
      have hbad2:Hid (∀ j,j < i+1→bad N L j=0):=fun j hj=>by
       by_cases e:j=i
       ·rw [e];exact he
       ·exact hbad.out j (by omega)
      clear HBA HST k4
      gi_wp2
      gi_region_with_o (fail)
      all_goals gi_wp2
      all_goals
       have q0:=fun k (h:k≠w.heap.size+1+1) (h':k≠w.heap.size+1+1+1)=>st_3 W2 (.int .i64 x) (.int .i64 sh) (.int .u64 sl) h h'
       have q1:=st_3a W2 (.int .i64 x) (.int .i64 sh) (.int .u64 sl) (show w.heap.size+1+1≠w.heap.size+1+1+1 by omega) H22.out H32.out
       refine ⟨?_,⟨⟨(q0 _ (by omega) (by omega)).trans H02.out,(q0 _ (by omega) (by omega)).trans H12.out,?_,?_⟩,?_,hbad2⟩⟩
       ·exact (((Mid.refl _ _ _).drew.st (by omega) (by omega) _).setCell (p:=⟨w.heap.size+1+1+1,0,none⟩) (Or.inl ⟨by show w.heap.size≤w.heap.size+1+1+1;omega,by show w.heap.size+1+1+1 < _;omega⟩) _).setCell (p:=⟨w.heap.size+1+1+1,1,none⟩) (Or.inl ⟨by show w.heap.size≤w.heap.size+1+1+1;omega,by show w.heap.size+1+1+1 < _;omega⟩) _
       ·rw [HAS.out];exact q1.1
       ·rw [HSH.out,HSL.out];exact q1.2
       ·exact ((bl_st HB2.out.drew (by omega) _).setCell (p:=⟨w.heap.size+1+1+1,0,none⟩) (by show w.heap.size≤w.heap.size+1+1+1;omega) _).setCell (p:=⟨w.heap.size+1+1+1,1,none⟩) (by show w.heap.size≤w.heap.size+1+1+1;omega) _
 case done =>
  rintro D W hD ⟨⟨h01,h11,h21,h31⟩,hBel,hbad⟩ hK
  have hsn:=HSN.out L.length (Nat.le_refl _)
  have HSM:Hid (sN L L.length=sumN L):=by unfold Hid sN;rw [List.take_length]
  have HO:Hid (∀ W,_):=of_max
  have HC:Hid (∀ W,_):=compare_sum (sN L L.length) 9223372036854775807 (by omega) (by omega)
  rw [show ((9223372036854775807:Nat):Int)=9223372036854775807 from rfl] at HC
  have hS0:W.cell? ⟨w.heap.size+1+1+1,0,none⟩=some _∧W.cell? ⟨w.heap.size+1+1+1,1,none⟩=some _∧Below W.heap.size W W:=⟨cell_0 h31,cell_1 h31,Below.refl _ _⟩
  have D0:Hid (W.heap[w.heap.size]? =some (.cells #[.int .i64 0] 25 (0,0))):=h01
  have DK:Hid (W.heap[D]? =some (.deferred (some []))):=hK
  have DB:Hid (Below w.heap.size w W):=hBel
  have ne1:Hid (w.heap.size≠D):=not_deferred h01 hK
  have HR:Hid (∀ e:Int,(e=if 9223372036854775807 < sN L L.length then 3 else 0)→MayIs (p:Int) L e):=fun e h=>HM.out e (Or.inr ⟨hbad.out,by rw [h,HSM.out]⟩)
  clear h01 h11 h21 h31 hBel hK HL HSu HM HSN
  obtain ⟨C,hC,hC0⟩:∃ C:Int,(if sN L L.length < 9223372036854775807 then (-1:Int) else if sN L L.length=9223372036854775807 then 0 else 1)=C∧(0 < C ↔ 9223372036854775807 < sN L L.length):=⟨_,rfl,by split <;> (try split) <;> omega⟩
  rw [hC] at HC
  generalize ((sN L L.length / 18446744073709551616:Nat):Int)=sh at *
  generalize ((sN L L.length % 18446744073709551616:Nat):Int)=sl at *
  have HC0:Hid _:=hC0
  clear hC hC0 hsn HSM
  gi_wp2
  refine wpIn_wide.2 ?_
  go_region_held3 (fun X=>X.cell? ⟨w.heap.size+1+1+1,0,none⟩=some (.int .i64 sh)∧X.cell? ⟨w.heap.size+1+1+1,1,none⟩=some (.int .u64 sl)∧Below W.heap.size W X)
   (first | assumption | exact keepT (by assumption) (by assumption) | exact keepT (Below.drew (Below.refl _ _)) hS0)
   (first
    | (go_at_call 114;with_reducible refine (HO.out _).mono ?_;rintro e w1 ⟨rfl,hk1⟩)
    | (go_at_call 82;with_reducible refine (HC.out _).mono ?_;rintro e w2 ⟨rfl,hk2⟩))
  rename_i hS1
  have HS1:Hid _:=hS1.2.2
  have F1:=hid_keep HS1.out D0
  have K1:=hid_keep HS1.out DK
  have g0:=cell_b F1.out
  have g1:=froz_b F1.out
  clear hS0 hS1
  by_cases hb:9223372036854775807 < sN L L.length
  ·have c1:0 < C:=HC0.out.2 hb
   have HE:Hid (MayIs (p:Int) L 3):=HR.out 3 (by rw [if_pos hb])
   gi_wp2
   have K3:=(Below.heap_setCell _ ⟨w.heap.size,0,none⟩ (.int .i64 3) _ (fun e=>ne1.out e.symm)).trans K1.out
   refine ⟨by simp,.inl ⟨_,_,rfl,run_takeDeferred K3,?_⟩⟩
   exact ⟨_,results_c1 rfl _ _ _ rfl (bx_put (Boxed.set _ F1.out) ne1.out).cell,⟨3,rfl,HE.out⟩,below_put (bl_st (bt DB.out HS1.out) (Nat.le_refl _) _) (by omega)⟩
  ·have c1:¬ 0 < C:=fun h=>hb (HC0.out.1 h)
   have HE:Hid (MayIs (p:Int) L 0):=HR.out 0 (by rw [if_neg hb])
   gi_wp2
   have K3:=(Below.heap_setCell _ ⟨w.heap.size,0,none⟩ (.int .i64 0) _ (fun e=>ne1.out e.symm)).trans K1.out
   refine ⟨by simp,.inl ⟨_,_,rfl,run_takeDeferred K3,?_⟩⟩
   exact ⟨_,results_c1 rfl _ _ _ rfl (bx_put (Boxed.set _ F1.out) ne1.out).cell,⟨0,rfl,HE.out⟩,below_put (bl_st (bt DB.out HS1.out) (Nat.le_refl _) _) (by omega)⟩
 case stop =>
  rintro D c i W hD hi ⟨hc,⟨k,e,h2,h3,h4⟩,h7⟩ hK
  obtain rfl:=hc.out
  have ne1:=not_deferred h4 hK
  gi_wp2
  refine ⟨by simp,.inl ⟨_,_,rfl,run_takeDeferred hK,?_⟩⟩
  exact ⟨_,results_c1 rfl _ _ _ rfl (bx_put h4 ne1).cell,⟨e,rfl,HM.out e (Or.inl ⟨k,h2,h3.out.1,by rw [h3.out.2.1];exact h3.out.2.2,h3.out.2.1.symm⟩)⟩,below_put h7 (by omega)⟩
theorem may_any (W:World) (v:Value) (L:List Cn) (p x:Int) (hS:SN W v L) (hW:Wc L) (hl:L.length≤8796093022208) (hx:MayIs p L x):Calls Tryz.prog 84 #[.int .i64 p,v] W fun e w'=>e=.returned (.int .i64 x)∧Below W.heap.size W w':=by
 obtain ⟨ao,b,o,cap,rfl,hao,hR⟩:=hS.sc
 have key:Calls Tryz.prog 84 #[.int .i64 p,.slice ao L.length cap] W fun e w'=>(∃ x,e=.returned (.int .i64 x)∧MayIs p L x)∧Below W.heap.size W w':=by
  by_cases hp:1≤p∧p≤14
  ·obtain ⟨P,rfl⟩:=Int.eq_ofNat_of_zero_le (by omega:0≤p)
   exact may_good W ao b o cap P (by omega) (by omega) L hao hR hW hl
  ·exact may_bad W ao L.length cap L p hp
 refine key.mono ?_
 rintro e w' ⟨⟨y,rfl,hy⟩,hb⟩
 exact ⟨by rw [hy.uniq hx],hb⟩
end Go.Proofs.YtlgkfeeclgcgbaaGreatDoor
/- AtMost, the code's. Own work of the verifier. -/
namespace Go.Proofs.YtlgkfeeclgcgbaaGreatDoor
open Go.RowKit Go.Shelf
attribute [local go_sem] Oper.semAt_some
theorem may_rise {p:Int} {L:List Cn} (h:MayIs p L 0):∀ j i (hj:j < L.length) (hi:i < L.length),i < j→L[i].1 < L[j].1:=by
 have step:∀ j (hj:j+1 < L.length),L[j].1 < L[j+1].1:=fun j hj=>by
  rcases h with ⟨_,h⟩ | ⟨hp,h⟩
  ·exact absurd h (by decide)
  ·rcases h with ⟨i,_,_,h3,h4⟩ | ⟨h1,h2⟩
   ·exact absurd h4.symm h3
   ·have hb:=h1 (j+1) hj
    unfold bad at hb
    rw [show L.getD (j+1) (0,1)=L[j+1] from by simp [List.getD,hj],show L.getD (j+1 - 1) (0,1)=L[j] from by simp [List.getD,show j < L.length by omega]] at hb
    by_cases c1:L[j+1].1 < 0∨(((64 - p.toNat)*2 ^ p.toNat:Nat):Int)≤L[j+1].1
    ·rw [if_pos c1] at hb;exact absurd hb (by decide)
    ·rw [if_neg c1] at hb
     by_cases c2:0 < j+1∧L[j+1].1≤L[j].1
     ·rw [if_pos c2] at hb;exact absurd hb (by decide)
     ·omega
 intro j
 induction j with
 | zero=>intro i _ _ h;omega
 | succ j ih =>
  intro i hj hi hij
  by_cases e:i=j
  ·subst e;exact step i hj
  ·have:=ih i (by omega) hi (by omega)
   have:=step j hj
   omega
end Go.Proofs.YtlgkfeeclgcgbaaGreatDoor
/- THE PLAIN MATHEMATICS of a division of two words by one, its end. Own work of the verifier. -/
namespace Go.Proofs.YtlgkfeeclgcgbaaGreatDoor
theorem bitLen_norm (y:Nat) (h0:0 < y) (h1:y < 18446744073709551616):Lib.bitLen y≤64∧1≤Lib.bitLen y∧9223372036854775808≤y*2 ^ (64 - Lib.bitLen y)∧y*2 ^ (64 - Lib.bitLen y) < 18446744073709551616:=by
 have b:=Lib.bitLenAux_bounds 64 y (by omega) (by omega)
 have hle:=Lib.bitLen_le y 64 (Nat.le_refl _) (by omega)
 change 1≤Lib.bitLen y∧2 ^ (Lib.bitLen y - 1)≤y∧y < 2 ^ Lib.bitLen y at b
 generalize Lib.bitLen y=k at *
 obtain ⟨b1,b2,b3⟩:=b
 refine ⟨hle,b1,?_,?_⟩
 ·calc 9223372036854775808=2 ^ (k - 1)*2 ^ (64 - k):=by rw [← Nat.pow_add,show k - 1+(64 - k)=63 from by omega]
   _≤_:=Nat.mul_le_mul_right _ b2
 ·calc y*2 ^ (64 - k) < 2 ^ k*2 ^ (64 - k):=Nat.mul_lt_mul_of_pos_right b3 (Nat.pow_pos (by decide))
   _=_:=by rw [← Nat.pow_add,show k+(64 - k)=64 from by omega]
end Go.Proofs.YtlgkfeeclgcgbaaGreatDoor
/- Rank and Quantile, the code's. Own work of the verifier. -/
set_option maxHeartbeats 400000
namespace Go.Proofs.YtlgkfeeclgcgbaaGreatDoor
open Go.RowKit
theorem cmul64_any (x y:Int) (hx0:0≤x) (hx:x < 18446744073709551616) (hy0:0≤y) (hy:y < 18446744073709551616) (w:World) :
  Calls Tryz.prog 138 #[.int .u64 x,.int .u64 y] w fun e w'=>e=.returned (.tuple #[.int .u64 (hiOf (x*y)),.int .u64 (loOf (x*y))])∧w'=w:=by
 obtain ⟨x,rfl⟩:=Int.eq_ofNat_of_zero_le hx0
 obtain ⟨y,rfl⟩:=Int.eq_ofNat_of_zero_le hy0
 refine (Tryz.bits_Mul64 x y (by omega) (by omega) w).mono ?_
 rintro e w' ⟨rfl,rfl⟩
 refine ⟨?_,rfl⟩
 unfold hiOf loOf
 rw [← Int.natCast_mul]
 simp only [Int.natCast_ediv,Int.natCast_emod]
 rfl
theorem cmul_any (x y:Int) (hx0:0≤x) (hx:x < 18446744073709551616) (hy0:0≤y) (hy:y < 18446744073709551616) (w:World) :
  Calls Tryz.prog 117 #[.int .u64 x,.int .u64 y] w fun e w'=>e=.returned (.tuple #[.int .u64 (hiOf (x*y)),.int .u64 (loOf (x*y))])∧w'=w:=by
 go_enter Tryz.func117,Tryz.ntmps117
 go_wp2_with fail
 refine (cmul64_any x y hx0 hx hy0 hy _).mono ?_
 rintro e w1 ⟨rfl,rfl⟩
 go_wp2
 go_ret2
 exact ⟨rfl,rfl⟩
end Go.Proofs.YtlgkfeeclgcgbaaGreatDoor
