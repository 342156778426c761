/- THE READER: histogram, the loop. Own work of the verifier. -/
import Derived.Test.YtfkbjdgbpenflaaGreatDoorWBG
set_option maxRecDepth 100000
set_option maxHeartbeats 8000000
namespace Go.Proofs.YtfkbjdgbpenflaaGreatDoor.Sc
open Go.RowKit Me
def sDrop:Nat→Code→Code
 | 0,c=>c
 | n+1,.seq _ b=>sDrop n b
 | _+1,c=>c
def sFirst:Code→Code
 | .seq a _=>a
 | c=>c
def bodyC:Option Code→Code
 | some c=>c
 | none=>.skip
noncomputable abbrev hB:Code:=bodyC Tryz.f136.body
def fr86 (f:Nat→Value):Array Value:=((List.range 86).map f).toArray
theorem fr86_lit (f:Nat→Value):fr86 f=#[f 0,f 1,f 2,f 3,f 4,f 5,f 6,f 7,f 8,f 9,f 10,f 11,f 12,f 13,f 14,f 15,f 16,f 17,f 18,f 19,f 20,f 21,f 22,f 23,f 24,f 25,f 26,f 27,f 28,f 29,f 30,f 31,f 32,f 33,f 34,f 35,f 36,f 37,f 38,f 39,f 40,f 41,f 42,f 43,f 44,f 45,f 46,f 47,f 48,f 49,f 50,f 51,f 52,f 53,f 54,f 55,f 56,f 57,f 58,f 59,f 60,f 61,f 62,f 63,f 64,f 65,f 66,f 67,f 68,f 69,f 70,f 71,f 72,f 73,f 74,f 75,f 76,f 77,f 78,f 79,f 80,f 81,f 82,f 83,f 84,f 85]:=rfl
theorem fr86_to (a:Array Value) (h:a.size=86):a=fr86 (fun i=>a.getD i (.bool false)):=by
 apply Array.ext
 ·simp [fr86,h]
 ·intro i h1 h2
  simp [fr86,Array.getD,h1]
theorem wp_fr86 {c:Code} {Q:Exit→Act→World→Prop} {a:Array Value} {W:World} (h:a.size=86) (k:Code.wp Tryz.prog c Q ⟨fr86 (fun i=>a.getD i (.bool false)),[]⟩ W):Code.wp Tryz.prog c Q ⟨a,[]⟩ W:=by
 rw [← fr86_to a h] at k
 exact k
theorem hpt0:sDrop 0 hB=.seq (sFirst (sDrop 0 hB)) (sDrop 1 hB):=by kernel_rfl
theorem hpt1:sDrop 1 hB=.seq (sFirst (sDrop 1 hB)) (sDrop 2 hB):=by kernel_rfl
theorem hpt2:sDrop 2 hB=.seq (sFirst (sDrop 2 hB)) (sDrop 3 hB):=by kernel_rfl
theorem hpt3:sDrop 3 hB=.seq (sFirst (sDrop 3 hB)) (sDrop 4 hB):=by kernel_rfl
theorem hpt4:sDrop 4 hB=.seq (sFirst (sDrop 4 hB)) (sDrop 5 hB):=by kernel_rfl
theorem hpt5:sDrop 5 hB=.seq (sFirst (sDrop 5 hB)) (sDrop 6 hB):=by kernel_rfl
theorem hpt6:sDrop 6 hB=.seq (sFirst (sDrop 6 hB)) (sDrop 7 hB):=by kernel_rfl
theorem hpt7:sDrop 7 hB=.seq (sFirst (sDrop 7 hB)) (sDrop 8 hB):=by kernel_rfl
theorem hist_loop (u:World) (rb:Nat) (w W:World) (vb p:Nat) (d:La.Ds) (A y0 z0:List UInt8) (C:List Cn) (lv cv0:Value) (T0 T':List UInt8) (n0 ne:Nat) (f:Nat→Value) (Q:Exit→Act→World→Prop)
  (hm:Mx u) (ht:Wi.Tab u) (hp1:1≤p) (hp2:p≤14) (hT:T0.length≤4194304) (hn:ne≤4611686018427387904) (hC:C.length≤1048576) (hs:C.Pairwise (fun a b=>a.1 < b.1))
  (h0:f 0=.pointer (some ⟨rb,0,none⟩)) (h1:f 1=.int .i64 (p:Int)) (h5:f 5=.pointer (some ⟨w.heap.size,0,none⟩)) (h6:f 6=.pointer (some ⟨w.heap.size+1,0,none⟩)) (h7:f 7=.string ⟨A.toArray⟩) (h8:f 8=.string ⟨y0.toArray⟩) (h9:f 9=.string ⟨z0.toArray⟩) (h10:f 10=.pointer (some ⟨vb,0,none⟩))
  (hH:Hs u rb w vb ⟨d,0,[],0,0,0,0⟩ lv cv0 T0 n0 W) (hL:LpR p A 0 C y0 z0 T0 T') (hne:n0+C.length=ne)
  (Hr:∀ (f':Nat→Value) (z:List UInt8) (a:Nat) (cv:Value) (W':World),f' 0=.pointer (some ⟨rb,0,none⟩)→f' 5=.pointer (some ⟨w.heap.size,0,none⟩)→f' 6=.pointer (some ⟨w.heap.size+1,0,none⟩)→f' 9=.string ⟨z.toArray⟩→f' 10=.pointer (some ⟨vb,0,none⟩)→whoR z=some a→a=(C.map (·.2)).sum→Hs u rb w vb ⟨d,0,C,a,0,0,0⟩ lv cv T' ne W'→Code.wp Tryz.prog (sDrop 5 hB) Q ⟨fr86 f',[]⟩ W') :
  Code.wp Tryz.prog (sDrop 4 hB) Q ⟨fr86 f,[]⟩ W:=by
 rw [hpt4]
 refine wp_seq_k fun K hK=>?_
 rw [fr86_lit,h0,h1,h5,h6,h7,h8,h9,h10]
 clear h0 h1 h5 h6 h7 h8 h9 h10
 dsimp only [sDrop,sFirst,bodyC,hB,Tryz.f136]
 have HK:Hid (∀ (a:Array Value) (z:List UInt8) (k:Nat) (cv:Value) (W':World),a.size=86→a.getD 0 (.bool false)=.pointer (some ⟨rb,0,none⟩)→a.getD 5 (.bool false)=.pointer (some ⟨w.heap.size,0,none⟩)→a.getD 6 (.bool false)=.pointer (some ⟨w.heap.size+1,0,none⟩)→a.getD 9 (.bool false)=.string ⟨z.toArray⟩→a.getD 10 (.bool false)=.pointer (some ⟨vb,0,none⟩)→whoR z=some k→k=(C.map (·.2)).sum→Hs u rb w vb ⟨d,0,C,k,0,0,0⟩ lv cv T' ne W'→K ⟨a,[]⟩ W'):=fun a z k cv W' e1 e2 e3 e4 e5 e6 e7 e8 e9=>hK _ _ (wp_fr86 e1 (Hr _ z k cv W' e2 e3 e4 e5 e6 e7 e8 e9))
 have HH0:=hid_of hH
 have HL0:=hid_of hL
 have HN0:=hid_of hne
 have HT0:=hid_of hT
 have HS:=hid_of hs
 have HC:=hid_of hC
 have HYes:Hid (∀ W,Calls Tryz.prog 29 #[.pointer (some ⟨rb,0,none⟩),.bool true] W fun e w'=>e=.returned (.tuple #[])∧w'=W):=fun W=>must_yes rb W
 have HWh:Hid (∀ (T S:List UInt8) (n k:Nat) (w0 W:World),Rd u rb w0 T n W→whoR S=some k→Calls Tryz.prog 26 #[.pointer (some ⟨rb,0,none⟩),.string ⟨S.toArray⟩] W fun e w'=>e=.returned (.int .u64 (k:Int))∧Below W.heap.size W w'):=fun T S n k w0 W h hk=>by
  refine Calls.mono (whole_any u rb T S n w0 W h ht) ?_
  rintro e w' ⟨hb,⟨k',q1,_,q2⟩ | ⟨q,_⟩⟩
  ·rw [hk] at q1;cases q1;exact ⟨q2,hb⟩
  ·rw [hk] at q;cases q
 have HMo:Hid (∀ (T x y z T1:List UInt8) (n:Nat) (W:World),Rd u rb W T n W→T.length≤4194304→n≤4611686018427387904→MoL T x y z T1→Calls Tryz.prog 166 #[.pointer (some ⟨rb,0,none⟩),.string ⟨#[108,101]⟩] W fun e w'=>e=.returned (.tuple #[.string ⟨x.toArray⟩,.string ⟨y.toArray⟩,.string ⟨z.toArray⟩])∧Rd u rb W T1 (n+1) w'):=fun T x y z T1 n W h h1 h2 ⟨m1,m2,m3⟩=>by
  refine Calls.mono (more_any u rb T [108,101] n W W h hm h1 h2 (by decide)) ?_
  rintro e w' (⟨x',y',z',k1,k2,k3,k4⟩ | ⟨k1,_⟩)
  ·rw [m2] at k2
   cases k2
   rw [m3] at k4
   exact ⟨k3,k4⟩
  ·rw [k1 m1] at m2;cases m2
 clear hH hL hne hT hs hK Hr hm ht hC
 go_upto_region 4 with fail
 go_loopw [8,9] (fun y z W=>∃ (C1 C2:List Cn) (a:Nat) (cv:Value) (ys zs T:List UInt8) (n:Nat),y=.string ⟨ys.toArray⟩∧z=.string ⟨zs.toArray⟩∧Hid (C=C1++C2)∧Hid (Hs u rb w vb ⟨d,0,C1,a,0,0,0⟩ lv cv T n W)∧Hid (LpR p A a C2 ys zs T T')∧Hid (n+C2.length=ne)∧Hid (T.length≤4194304)∧Hid (a+(C2.map (·.2)).sum=(C.map (·.2)).sum)) (fun _ _ W=>mzR rb W)
 case atStart=>exact ⟨[],C,0,cv0,y0,z0,T0,n0,rfl,rfl,rfl,HH0,HL0,HN0,HT0,by unfold Hid;omega⟩
 case round =>
  clear HH0 HL0 HN0 HT0
  obtain ⟨C1,C2,a,cv,ys,zs,T,n,rfl,rfl,HCC,HH,HL,HN,HT,HSm⟩:=hrel
  cases C2 with
  | nil =>
   obtain ⟨rfl,l2,rfl⟩:=HL.out
   have HF:=hid_of (HK.out)
   have HH2:Hid (Hs u rb w vb ⟨d,0,C,a,0,0,0⟩ lv cv T ne wr):=by
    have e1:=HCC.out
    have e2:=HN.out
    rw [List.append_nil] at e1
    simp only [List.length_nil,Nat.add_zero] at e2
    unfold Hid
    rw [e1,← e2]
    exact HH.out
   have HL2:=hid_of l2
   have HS2:Hid (a=(C.map (·.2)).sum):=hid_of (by have:=HSm.out;simpa using this)
   clear HWh HMo HYes HH HL HN HT HCC l2 HS
   go_wp2_with fail
   exact HK.out _ zs a cv _ rfl rfl rfl rfl rfl rfl HL2.out HS2.out HH2.out
  | cons c C2 =>
   obtain ⟨l1,⟨i,l2,l3,l4⟩,l5,l6,l7,y',z',T1,l8,l9⟩:=HL.out
   have hy':(ys == [43,73,110,102])=false:=beq_eq_false_iff_ne.2 l1
   have hc:((i:Int),a+c.2 - a)=c:=by rw [Nat.add_sub_cancel_left,← l2]
   have hCl:C1.length+(C2.length+1)=C.length:=by rw [HCC.out];simp
   have hC1:C1.length≤1048576:=by have:=HC.out;omega
   have hla:∀ c',C1.getLast? =some c'→c'.1 < (i:Int):=fun c' hq=>by
    have h1:=HS.out
    rw [HCC.out] at h1
    rw [← l2]
    exact (List.pairwise_append.1 h1).2.2 c' (List.mem_of_getLast? hq) c List.mem_cons_self
   have hn1:n≤4611686018427387904:=by have:=HN.out;simp only [List.length_cons] at this;omega
   have D1:La.HidC _ _ _ _ _:=HWh.out T ys n (hiV p i) w wr HH.out.rd l4
   have HD2:Hid (∀ W,Below wr.heap.size wr W→_):=fun W hb=>HWh.out T zs n (a+c.2) w W (HH.out.keep hb).rd l5
   have HD3:Hid (∀ W,Below wr.heap.size wr W→_):=fun W hb=>count_ok u rb vb (vb+1) p i (a+c.2) T n ⟨d,0,C1,a,0,0,0⟩ lv cv W (HH.out.keep hb).rd.re hp1 hp2 l3 (HH.out.keep hb).v (HH.out.keep hb).oc (Array.getElem?_eq_some_iff.1 (HH.out.keep hb).v).1 (Nat.lt_succ_self _) hC1 hla (show a < a+c.2 by omega) l7
   have HL8:=hid_of l8
   have HL9:=hid_of l9
   have HCe:=hid_of hc
   generalize hiV p i=Hh at *
   clear l1 l2 l3 l4 l5 l6 l8 l9 hc hla HL HWh hCl
   go_wp2_with fail
   refine Calls.mono D1.out ?_
   rintro e w1 ⟨rfl,hb1⟩
   have D2:La.HidC _ _ _ _ _:=HD2.out w1 hb1
   go_wp2_with fail
   refine Calls.mono D2.out ?_
   rintro e w2 ⟨rfl,hb2⟩
   have D3:La.HidC _ _ _ _ _:=HD3.out w2 (bt hb1 hb2)
   have HH2:=hid_of ((HH.out.keep hb1).keep hb2)
   clear D1 D2 HD2 HD3 hb1 hb2
   go_wp2_with fail
   refine Calls.mono D3.out ?_
   rintro e w3 ⟨rfl,cv',hv3,ho3,hc3⟩
   have HH3:Hid (Hs u rb w vb ⟨d,0,C1++[c],a+c.2,0,0,0⟩ lv cv' T n w3):=by
    have q:=HH2.out.count hv3 ho3 hc3
    rw [HCe.out] at q
    exact q
   have D4:La.HidC _ _ _ _ _:=HMo.out T A y' z' T1 n w3 HH3.out.rd.re HT.out hn1 HL8.out
   have HMz:Hid (T1.length < mzR rb wr):=by
    unfold Hid
    rw [HH.out.rd.mz,← HL8.out.2.2]
    exact cut_lt HL8.out.1
   clear D3 hv3 ho3 hc3 HH2 HMo HH HCe
   go_wp2_with fail
   refine Calls.mono D4.out ?_
   rintro e w4 ⟨rfl,hr4⟩
   have HH4:=hid_of (HH3.out.called hr4)
   clear D4 hr4 HH3
   go_wp2_with fail
   refine Calls.mono (HYes.out _) ?_
   rintro e w5 ⟨rfl,rfl⟩
   go_wp2_with fail
   refine ⟨⟨C1++[c],C2,a+c.2,cv',y',z',T1,n+1,rfl,rfl,?_,HH4,HL9,?_,?_,?_⟩,?_⟩
   ·unfold Hid
    rw [HCC.out]
    simp
   ·have:=HN.out
    unfold Hid
    simp only [List.length_cons] at this
    omega
   ·have:=cut_lt HL8.out.1
    rw [HL8.out.2.2] at this
    have:=HT.out
    unfold Hid
    omega
   ·have:=HSm.out
    unfold Hid
    rw [List.map_cons,List.sum_cons] at this
    omega
   ·rw [HH4.out.rd.mz]
    exact HMz.out
theorem Hs.total {u:World} {rb:Nat} {w W:World} {vb:Nat} {x:Vl} {lv cv:Value} {T:List UInt8} {n:Nat} (h:Hs u rb w vb x lv cv T n W) (t:Int):Hs u rb w vb { x with t:=t } lv cv T n ((W.setCell ⟨vb,4,none⟩ (.int .i64 (hiOf t))).setCell ⟨vb,5,none⟩ (.int .u64 (loOf t))):=by
 have lt:=h.lt
 have hv:=h.hv
 have hlo:=h.rd.lo
 have hss:=h.rd.st.size
 have ho:∀ k,k≠vb→((W.setCell ⟨vb,4,none⟩ (.int .i64 (hiOf t))).setCell ⟨vb,5,none⟩ (.int .u64 (loOf t))).heap[k]? =W.heap[k]?:=fun k hk=>by rw [heap_other _ _ _ _ hk,heap_other _ _ _ _ hk]
 have nl:=own_notype h.ol h.v types_lv
 have nc:=own_neG h.oc (b:=vb) (by omega)
 refine ⟨(h.rd.put ⟨vb,4,none⟩ _ (by show vb≠rb;omega) (by show w.heap.size≤vb;omega) (by show u.heap.size≤vb;omega)).put ⟨vb,5,none⟩ _ (by show vb≠rb;omega) (by show w.heap.size≤vb;omega) (by show u.heap.size≤vb;omega),lt,(ho _ (by omega)).trans h.d,(ho _ (by omega)).trans h.r,?_,hv,own_setG (own_setG h.ol nl _) nl _,own_setG (own_setG h.oc nc _) nc _⟩
 have h1:=Lib.heap_setCell_same (i:=4) h.v (.int .i64 (hiOf t))
 have h2:=Lib.heap_setCell_same (i:=5) h1 (.int .u64 (loOf t))
 rw [h2]
 simp
theorem must_all (rb:Nat):Hid (∀ W,Calls Tryz.prog 29 #[.pointer (some ⟨rb,0,none⟩),.bool true] W fun e w'=>e=.returned (.tuple #[])∧w'=W):=fun W=>must_yes rb W
theorem who_all {u:World} {rb:Nat} (ht:Wi.Tab u):Hid (∀ (T S:List UInt8) (n k:Nat) (w0 W:World),Rd u rb w0 T n W→whoR S=some k→Calls Tryz.prog 26 #[.pointer (some ⟨rb,0,none⟩),.string ⟨S.toArray⟩] W fun e w'=>e=.returned (.int .u64 (k:Int))∧Below W.heap.size W w'):=fun T S n k w0 W h hk=>by
 refine Calls.mono (whole_any u rb T S n w0 W h ht) ?_
 rintro e w' ⟨hb,⟨k',q1,_,q2⟩ | ⟨q,_⟩⟩
 ·rw [hk] at q1;cases q1;exact ⟨q2,hb⟩
 ·rw [hk] at q;cases q
theorem wid_all {u:World} {rb:Nat} (ht:Wi.Tab u):Hid (∀ (T S:List UInt8) (n:Nat) (t:Int) (w0 W:World),Rd u rb w0 T n W→widR S=some t→Calls Tryz.prog 53 #[.pointer (some ⟨rb,0,none⟩),.string ⟨S.toArray⟩] W fun e w'=>e=.returned (.agg #[.int .i64 (hiOf t),.int .u64 (loOf t)])∧Below W.heap.size W w'):=fun T S n t w0 W h hk=>by
 refine Calls.mono (rwide_any u rb T S n w0 W h ht) ?_
 rintro e w' ⟨hb,⟨t',q1,q2⟩ | ⟨q,_⟩⟩
 ·rw [hk] at q1;cases q1;exact ⟨q2,hb⟩
 ·rw [hk] at q;cases q
theorem num_all {u:World} {rb:Nat} (hm:Mx u) (L:List La.Lb) (hv:∀ q ∈ L,q.2.length≤9223372036854775807):Hid (∀ (T name b:List UInt8) (lv:Value) (B n:Nat) (W:World),Rd u rb W T n W→T.length≤4194304→n≤4611686018427387904→La.OwnL B lv L W→(La.printT name L).length≤140737488355328→(cut10 T).2.2=true→spl (cut10 T).1=some (La.printT name L,b)→Calls Tryz.prog 169 #[.pointer (some ⟨rb,0,none⟩),.string ⟨name.toArray⟩,lv] W fun e w'=>e=.returned (.string ⟨b.toArray⟩)∧Rd u rb W (cut10 T).2.1 (n+1) w'):=fun T name b lv B n W h k1 k2 k3 k4 k5 k6=>by
 refine Calls.mono (number_any u rb T name L _ _ n W W h hm k1 k2 k3 hv k4) ?_
 rintro e w' (⟨b',q1,q2,q3,q4⟩ | ⟨q,_⟩)
 ·rw [k6] at q2;cases q2;exact ⟨q3,q4⟩
 ·exact absurd k6 (q b k5)
theorem hist_all (u:World) (rb:Nat) (w W:World) (vb:Nat) (x:Vl) (lv cv:Value) (T z:List UInt8) (n:Nat) (f:Nat→Value) (R:Ending→World→Prop) (ht:Wi.Tab u)
  (h0:f 0=.pointer (some ⟨rb,0,none⟩)) (h5:f 5=.pointer (some ⟨w.heap.size,0,none⟩)) (h6:f 6=.pointer (some ⟨w.heap.size+1,0,none⟩)) (h9:f 9=.string ⟨z.toArray⟩) (h10:f 10=.pointer (some ⟨vb,0,none⟩))
  (hz:whoR z=some x.n) (hH:Hs u rb w vb x lv cv T n W)
  (Hr:∀ (f':Nat→Value) (W':World),f' 0=.pointer (some ⟨rb,0,none⟩)→f' 5=.pointer (some ⟨w.heap.size,0,none⟩)→f' 6=.pointer (some ⟨w.heap.size+1,0,none⟩)→f' 10=.pointer (some ⟨vb,0,none⟩)→Hs u rb w vb x lv cv T n W'→Code.wp Tryz.prog (sDrop 6 hB) (bodyPost Tryz.prog Tryz.f136 R) ⟨fr86 f',[]⟩ W') :
  Code.wp Tryz.prog (sDrop 5 hB) (bodyPost Tryz.prog Tryz.f136 R) ⟨fr86 f,[]⟩ W:=by
 have HYes:=must_all rb
 have HWh:=who_all (rb:=rb) ht
 have HH:=hid_of hH
 have HR:Hid (∀ (a:Array Value) (W':World),a.size=86→a.getD 0 (.bool false)=.pointer (some ⟨rb,0,none⟩)→a.getD 5 (.bool false)=.pointer (some ⟨w.heap.size,0,none⟩)→a.getD 6 (.bool false)=.pointer (some ⟨w.heap.size+1,0,none⟩)→a.getD 10 (.bool false)=.pointer (some ⟨vb,0,none⟩)→Hs u rb w vb x lv cv T n W'→Code.wp Tryz.prog (sDrop 6 hB) (bodyPost Tryz.prog Tryz.f136 R) ⟨a,[]⟩ W'):=fun a W' e1 e2 e3 e4 e5 e6=>wp_fr86 e1 (Hr _ W' e2 e3 e4 e5 e6)
 have HD9:Hid (∀ W',Below W.heap.size W W'→Calls Tryz.prog 26 #[.pointer (some ⟨rb,0,none⟩),.string ⟨z.toArray⟩] W' fun e w'=>e=.returned (.int .u64 (x.n:Int))∧Hid (Hs u rb w vb x lv cv T n w')):=fun W' hb=>(HWh.out T z n x.n w W' (hH.keep hb).rd hz).mono fun e w' ⟨k1,k2⟩=>⟨k1,(hH.keep hb).keep k2⟩
 rw [hpt5]
 refine wp_seq_k fun K hK=>?_
 rw [fr86_lit,h0,h5,h6,h9,h10]
 clear h0 h5 h6 h9 h10 hH ht HWh hz Hr
 obtain ⟨c0,c1,c2,c3,c4,c5,c6,c7,c8,c9,c10⟩:=elev HH.out.v
 dsimp only [sDrop,sFirst,bodyC,hB,Tryz.f136]
 go_region_law
  (first
   | (rw [if_pos (by simp [Region.wanted])];go_simp;with_reducible refine Calls.mono (HD9.out _ (by first | exact Below.refl _ _ | exact (Below.refl _ _).drew)) ?_;rintro e w3 ⟨rfl,H3⟩;obtain ⟨x0,x1,x2,x3,x4,x5,x6,x7,x8,x9,x10⟩:=elev H3.out.v;simp only [])
   | (rw [if_pos (by simp [Region.wanted])];go_simp;with_reducible refine Calls.mono (HYes.out _) ?_;rintro e w4 ⟨rfl,rfl⟩;simp only []))
 all_goals
  refine hK _ _ ?_
  exact HR.out _ _ rfl rfl rfl rfl rfl H3.out
theorem hist_sum (u:World) (rb:Nat) (w W:World) (vb:Nat) (x:Vl) (lv cv:Value) (T b:List UInt8) (t:Int) (n:Nat) (f:Nat→Value) (R:Ending→World→Prop) (hm:Mx u) (ht:Wi.Tab u) (hT:T.length≤4194304) (hn:n≤4611686018427387904) (hN:x.d.name.length≤4194304) (hv:∀ q ∈ x.d.labels,q.2.length≤9223372036854775807) (hP:(La.printT (x.d.name++[95,115,117,109]) x.d.labels).length≤140737488355328)
  (h0:f 0=.pointer (some ⟨rb,0,none⟩)) (h5:f 5=.pointer (some ⟨w.heap.size,0,none⟩)) (h6:f 6=.pointer (some ⟨w.heap.size+1,0,none⟩)) (h10:f 10=.pointer (some ⟨vb,0,none⟩)) (hH:Hs u rb w vb x lv cv T n W)
  (hc:(cut10 T).2.2=true) (hs:spl (cut10 T).1=some (La.printT (x.d.name++[95,115,117,109]) x.d.labels,b)) (hw:widR b=some t)
  (Hr:∀ (f':Nat→Value) (W':World),f' 0=.pointer (some ⟨rb,0,none⟩)→f' 5=.pointer (some ⟨w.heap.size,0,none⟩)→f' 6=.pointer (some ⟨w.heap.size+1,0,none⟩)→f' 10=.pointer (some ⟨vb,0,none⟩)→Hs u rb w vb { x with t:=t } lv cv (cut10 T).2.1 (n+1) W'→Code.wp Tryz.prog (sDrop 7 hB) (bodyPost Tryz.prog Tryz.f136 R) ⟨fr86 f',[]⟩ W') :
  Code.wp Tryz.prog (sDrop 6 hB) (bodyPost Tryz.prog Tryz.f136 R) ⟨fr86 f,[]⟩ W:=by
 obtain ⟨la,lg,lc,rfl,-⟩:=own_form hH.ol
 have HR:Hid (∀ (a:Array Value) (W':World),a.size=86→a.getD 0 (.bool false)=.pointer (some ⟨rb,0,none⟩)→a.getD 5 (.bool false)=.pointer (some ⟨w.heap.size,0,none⟩)→a.getD 6 (.bool false)=.pointer (some ⟨w.heap.size+1,0,none⟩)→a.getD 10 (.bool false)=.pointer (some ⟨vb,0,none⟩)→Hs u rb w vb { x with t:=t } (.slice la x.d.labels.length lc) cv (cut10 T).2.1 (n+1) W'→Code.wp Tryz.prog (sDrop 7 hB) (bodyPost Tryz.prog Tryz.f136 R) ⟨a,[]⟩ W'):=fun a W' e1 e2 e3 e4 e5 e6=>wp_fr86 e1 (Hr _ W' e2 e3 e4 e5 e6)
 have sA:∀ W,(Op.stringOp .add ⟨x.d.name.toArray⟩ ⟨#[95,115,117,109]⟩).run Tryz.prog W=.ok (.string ⟨(x.d.name++[95,115,117,109]).toArray⟩) W:=fun W=>La.sadd x.d.name [95,115,117,109] (by simp;omega) W
 have D1:La.HidC _ _ _ _ _:=(num_all hm x.d.labels hv).out T (x.d.name++[95,115,117,109]) b (.slice la x.d.labels.length lc) w.heap.size n W hH.rd.re hT hn hH.ol hP hc hs
 have HD2:Hid (∀ S W',Rd u rb w S (n+1) W'→_):=fun S W' k=>(wid_all ht).out S b (n+1) t w W' k hw
 have HH:=hid_of hH
 obtain ⟨c0,c1,c2,c3⟩:=four_cells hH.d
 rw [hpt6]
 refine wp_seq_k fun K hK=>?_
 rw [fr86_lit,h0,h5,h6,h10]
 clear h0 h5 h6 h10 hH ht hm Hr hT hN hP hc hs hw hv hn
 generalize x.d.name++[(95:UInt8),115,117,109]=V at *
 dsimp only [sDrop,sFirst,bodyC,hB,Tryz.f136]
 go_wp2_with fail
 refine Calls.mono D1.out ?_
 rintro e w1 ⟨rfl,hr1⟩
 have HH1:=hid_of (HH.out.called hr1)
 have D2:La.HidC _ _ _ _ _:=HD2.out _ w1 HH1.out.rd
 clear D1 HD2 hr1 c0 c1 c2 c3 sA HH
 go_wp2_with fail
 refine Calls.mono D2.out ?_
 rintro e w2 ⟨rfl,hb2⟩
 have HH2:=hid_of (HH1.out.keep hb2)
 have hv2:=HH2.out.v
 have f4:w2.frozen? ⟨vb,4,none⟩=false:=by simp [World.frozen?,hv2]
 have f5:(w2.setCell ⟨vb,4,none⟩ (.int .i64 (hiOf t))).frozen? ⟨vb,5,none⟩=false:=by simp [World.frozen?,Lib.heap_setCell_same (i:=4) hv2 _]
 have f5':w2.frozen? ⟨vb,5,none⟩=false:=by simp [World.frozen?,hv2]
 obtain ⟨e0,e1,e2,e3,e4,e5,e6,e7,e8,e9,e10⟩:=elev hv2
 have HF:=hid_of (HH2.out.total t)
 clear D2 hb2 HH1 HH2 hv2
 go_wp2_with fail
 exact HR.out _ _ rfl rfl rfl rfl rfl HF.out
theorem hist_cnt (u:World) (rb:Nat) (w W:World) (vb:Nat) (x:Vl) (lv cv:Value) (T b:List UInt8) (n:Nat) (f:Nat→Value) (R:Ending→World→Prop) (hm:Mx u) (ht:Wi.Tab u) (hT:T.length≤4194304) (hn:n≤4611686018427387904) (hN:x.d.name.length≤4194304) (hv:∀ q ∈ x.d.labels,q.2.length≤9223372036854775807) (hP:(La.printT (x.d.name++[95,99,111,117,110,116]) x.d.labels).length≤140737488355328)
  (h0:f 0=.pointer (some ⟨rb,0,none⟩)) (h5:f 5=.pointer (some ⟨w.heap.size,0,none⟩)) (h6:f 6=.pointer (some ⟨w.heap.size+1,0,none⟩)) (h10:f 10=.pointer (some ⟨vb,0,none⟩)) (hH:Hs u rb w vb x lv cv T n W)
  (hc:(cut10 T).2.2=true) (hs:spl (cut10 T).1=some (La.printT (x.d.name++[95,99,111,117,110,116]) x.d.labels,b)) (hw:whoR b=some x.n)
  (Hr:∀ (f':Nat→Value) (W':World),f' 0=.pointer (some ⟨rb,0,none⟩)→f' 5=.pointer (some ⟨w.heap.size,0,none⟩)→f' 6=.pointer (some ⟨w.heap.size+1,0,none⟩)→f' 10=.pointer (some ⟨vb,0,none⟩)→Hs u rb w vb x lv cv (cut10 T).2.1 (n+1) W'→Code.wp Tryz.prog (sDrop 8 hB) (bodyPost Tryz.prog Tryz.f136 R) ⟨fr86 f',[]⟩ W') :
  Code.wp Tryz.prog (sDrop 7 hB) (bodyPost Tryz.prog Tryz.f136 R) ⟨fr86 f,[]⟩ W:=by
 obtain ⟨la,lg,lc,rfl,-⟩:=own_form hH.ol
 have HR:Hid (∀ (a:Array Value) (W':World),a.size=86→a.getD 0 (.bool false)=.pointer (some ⟨rb,0,none⟩)→a.getD 5 (.bool false)=.pointer (some ⟨w.heap.size,0,none⟩)→a.getD 6 (.bool false)=.pointer (some ⟨w.heap.size+1,0,none⟩)→a.getD 10 (.bool false)=.pointer (some ⟨vb,0,none⟩)→Hs u rb w vb x (.slice la x.d.labels.length lc) cv (cut10 T).2.1 (n+1) W'→Code.wp Tryz.prog (sDrop 8 hB) (bodyPost Tryz.prog Tryz.f136 R) ⟨a,[]⟩ W'):=fun a W' e1 e2 e3 e4 e5 e6=>wp_fr86 e1 (Hr _ W' e2 e3 e4 e5 e6)
 have sA:∀ W,(Op.stringOp .add ⟨x.d.name.toArray⟩ ⟨#[95,99,111,117,110,116]⟩).run Tryz.prog W=.ok (.string ⟨(x.d.name++[95,99,111,117,110,116]).toArray⟩) W:=fun W=>La.sadd x.d.name [95,99,111,117,110,116] (by simp;omega) W
 have HYes:=must_all rb
 have HD1:Hid (∀ W',Below W.heap.size W W'→Calls Tryz.prog 169 #[.pointer (some ⟨rb,0,none⟩),.string ⟨(x.d.name++[95,99,111,117,110,116]).toArray⟩,.slice la x.d.labels.length lc] W' fun e w'=>e=.returned (.string ⟨b.toArray⟩)∧Hid (Hs u rb w vb x (.slice la x.d.labels.length lc) cv (cut10 T).2.1 (n+1) w')):=fun W' hb=>by
  have h1:=hH.keep hb
  exact ((num_all hm x.d.labels hv).out T (x.d.name++[95,99,111,117,110,116]) b (.slice la x.d.labels.length lc) w.heap.size n W' h1.rd.re hT hn h1.ol hP hc hs).mono fun e w' ⟨k1,k2⟩=>⟨k1,h1.called k2⟩
 have HD2:Hid (∀ W',Hid (Hs u rb w vb x (.slice la x.d.labels.length lc) cv (cut10 T).2.1 (n+1) W')→Calls Tryz.prog 26 #[.pointer (some ⟨rb,0,none⟩),.string ⟨b.toArray⟩] W' fun e w'=>e=.returned (.int .u64 (x.n:Int))∧Hid (Hs u rb w vb x (.slice la x.d.labels.length lc) cv (cut10 T).2.1 (n+1) w')):=fun W' k=>((who_all ht).out _ b (n+1) x.n w W' k.out.rd hw).mono fun e w' ⟨k1,k2⟩=>⟨k1,k.out.keep k2⟩
 have HH:=hid_of hH
 obtain ⟨c0,c1,c2,c3⟩:=four_cells hH.d
 obtain ⟨d0,d1,d2,d3,d4,d5,d6,d7,d8,d9,d10⟩:=elev hH.v
 rw [hpt7]
 refine wp_seq_k fun K hK=>?_
 rw [fr86_lit,h0,h5,h6,h10]
 clear h0 h5 h6 h10 hH ht hm Hr hT hN hP hc hs hw hv hn
 generalize x.d.name++[(95:UInt8),99,111,117,110,116]=V at *
 dsimp only [sDrop,sFirst,bodyC,hB,Tryz.f136]
 go_region_law
  (first
   | (rw [if_pos (by simp [Region.wanted])];go_simp;with_reducible refine Calls.mono (HD1.out _ (by first | exact Below.refl _ _ | exact (Below.refl _ _).drew)) ?_;rintro e w3 ⟨rfl,H3⟩;obtain ⟨x0,x1,x2,x3,x4,x5,x6,x7,x8,x9,x10⟩:=elev H3.out.v;simp only [])
   | (rw [if_pos (by simp [Region.wanted])];go_simp;with_reducible refine Calls.mono (HD2.out _ H3) ?_;rintro e w5 ⟨rfl,H5⟩;obtain ⟨y0,y1,y2,y3,y4,y5,y6,y7,y8,y9,y10⟩:=elev H5.out.v;simp only [])
   | (rw [if_pos (by simp [Region.wanted])];go_simp;with_reducible refine Calls.mono (HYes.out _) ?_;rintro e w4 ⟨rfl,rfl⟩;simp only []))
 all_goals
  refine hK _ _ ?_
  exact HR.out _ _ rfl rfl rfl rfl rfl H5.out
theorem own_put11G {W:World} {B b:Nat} {e:TypeId} {s n:Nat} {v:Value} {xs:List Value} (h:W.ownsRow B e s v n xs) (hb:v.ownBlock≠some b) (y0 y1 y2 y3 y4 y5 y6 y7 y8 y9 y10:Value):(put11 W b y0 y1 y2 y3 y4 y5 y6 y7 y8 y9 y10).ownsRow B e s v n xs:=by
 unfold put11
 exact own_setG (own_setG (own_setG (own_setG (own_setG (own_setG (own_setG (own_setG (own_setG (own_setG (own_setG h hb _) hb _) hb _) hb _) hb _) hb _) hb _) hb _) hb _) hb _) hb _
abbrev VlR (u:World) (rb:Nat) (w:World) (x:Vl) (T:List UInt8) (n:Nat) (e:Ending) (w':World):Prop:=∃ lv cv,e=.returned (.agg (vc x lv cv))∧Rd u rb w T n w'∧La.OwnL w.heap.size lv x.d.labels w'∧w'.ownsRow w.heap.size 79 2 cv x.cs.length (fl x.cs)
theorem hist_fin (u:World) (rb:Nat) (w W:World) (vb:Nat) (x:Vl) (lv cv:Value) (T:List UInt8) (n:Nat) (f:Nat→Value)
  (h6:f 6=.pointer (some ⟨w.heap.size+1,0,none⟩)) (h10:f 10=.pointer (some ⟨vb,0,none⟩)) (hH:Hs u rb w vb x lv cv T n W) :
  Code.wp Tryz.prog (sDrop 8 hB) (bodyPost Tryz.prog Tryz.f136 (VlR u rb w x T n)) ⟨fr86 f,[]⟩ W:=by
 obtain ⟨la,lg,lc,rfl,-⟩:=own_form hH.ol
 obtain ⟨ca,cg,cc,rfl,-⟩:=own_slice hH.oc
 have sF:=store_f
 have lt:=hH.lt
 have hvb:=hH.hv
 have hlo:=hH.rd.lo
 have hss:=hH.rd.st.size
 have HF:Hid (VlR u rb w x T n (.returned (.agg (vc x (.slice la x.d.labels.length lc) (.slice ca x.cs.length cc)))) (put11 W (w.heap.size+1) (.int .i64 x.d.kind) (.string ⟨x.d.name.toArray⟩) (.string ⟨x.d.help.toArray⟩) (.slice la x.d.labels.length lc) (.int .i64 (hiOf x.t)) (.int .u64 (loOf x.t)) (.slice ca x.cs.length cc) (.int .u64 (x.n:Int)) (.float .f64 x.sum) (.float .f64 x.mn) (.float .f64 x.mx))):=⟨_,_,rfl,hH.rd.put11 _ _ _ _ _ _ _ _ _ _ _ _ (by omega) (by omega) (by omega),own_put11G hH.ol (own_notype hH.ol hH.r types_lv) _ _ _ _ _ _ _ _ _ _ _,own_put11G (own_leG hH.oc (by omega)) (own_neG hH.oc (b:=w.heap.size+1) (by omega)) _ _ _ _ _ _ _ _ _ _ _⟩
 have hph:=put11_heap hH.r (.int .i64 x.d.kind) (.string ⟨x.d.name.toArray⟩) (.string ⟨x.d.help.toArray⟩) (.slice la x.d.labels.length lc) (.int .i64 (hiOf x.t)) (.int .u64 (loOf x.t)) (.slice ca x.cs.length cc) (.int .u64 (x.n:Int)) (.float .f64 x.sum) (.float .f64 x.mn) (.float .f64 x.mx)
 have HPH:=hid_of hph
 have hr:=hH.r
 obtain ⟨c0,c1,c2,c3,c4,c5,c6,c7,c8,c9,c10⟩:=elev hH.v
 obtain ⟨r0,r1,r2,r3,r4,r5,r6,r7,r8,r9,r10⟩:=elev hr
 have fz:∀ o,W.frozen? ⟨w.heap.size+1,o,none⟩=false:=fun o=>by simp [World.frozen?,hr]
 rw [fr86_lit,h6,h10]
 clear h6 h10 hH hph hr
 dsimp only [sDrop,sFirst,bodyC,hB,Tryz.f136]
 go_wp2_with fail
 change bodyPost _ _ _ _ _ (put11 W (w.heap.size+1) (.int .i64 x.d.kind) (.string ⟨x.d.name.toArray⟩) (.string ⟨x.d.help.toArray⟩) (.slice la x.d.labels.length lc) (.int .i64 (hiOf x.t)) (.int .u64 (loOf x.t)) (.slice ca x.cs.length cc) (.int .u64 (x.n:Int)) (.float .f64 x.sum) (.float .f64 x.mn) (.float .f64 x.mx))
 generalize put11 W (w.heap.size+1) (.int .i64 x.d.kind) (.string ⟨x.d.name.toArray⟩) (.string ⟨x.d.help.toArray⟩) (.slice la x.d.labels.length lc) (.int .i64 (hiOf x.t)) (.int .u64 (loOf x.t)) (.slice ca x.cs.length cc) (.int .u64 (x.n:Int)) (.float .f64 x.sum) (.float .f64 x.mn) (.float .f64 x.mx)=W9 at *
 refine bodyPost_ret (results_cell_row (P:=Tryz.prog) rfl _ _ (w.heap.size+1) 45 _ (0,0) _ rfl HPH.out Tryz.underlying45 rfl (by kernel_rfl)) rfl ?_
 exact HF.out
abbrev bkB:List UInt8:=[95,98,117,99,107,101,116,123]
structure H0 (u:World) (rb:Nat) (w:World) (D:Array Value) (T:List UInt8) (n:Nat) (W:World):Prop where
 rd:Rd u rb w T n W
 lt:rb < w.heap.size
 d:W.heap[w.heap.size]? =some (.cells D 41)
 r:W.heap[w.heap.size+1]? =some (.cells z11 45)
theorem H0.keep {u:World} {rb:Nat} {w W W':World} {D:Array Value} {T:List UInt8} {n:Nat} (h:H0 u rb w D T n W) (hb:Below W.heap.size W W'):H0 u rb w D T n W':=⟨h.rd.below hb,h.lt,hkN' h.d hb,hkN' h.r hb⟩
theorem H0.called {u:World} {rb:Nat} {w W W':World} {D:Array Value} {T T':List UInt8} {n n':Nat} (h:H0 u rb w D T n W) (k:Rd u rb W T' n' W'):H0 u rb w D T' n' W':=by
 have lt:=h.lt
 exact ⟨h.rd.then k,lt,k.ch.at_ h.d (by omega),k.ch.at_ h.r (by omega)⟩
theorem H0.size {u:World} {rb:Nat} {w W:World} {D:Array Value} {T:List UInt8} {n:Nat} (h:H0 u rb w D T n W):w.heap.size+2≤W.heap.size:=(Array.getElem?_eq_some_iff.1 h.r).1
theorem H0.new {u:World} {rb:Nat} {w:World} {T:List UInt8} {n:Nat} (D:Array Value) (h:Rd u rb w T n w):H0 u rb w D T n ((w.alloc (.cells D 41)).alloc (.cells z11 45)):=by
 refine ⟨h.below (bt (bel1 _ _) (bel1 _ _)),h.lt,hkN' (new_1 w _) (bel1 _ _),?_⟩
 have:=new_1 (w.alloc (.cells D 41)) (.cells z11 45)
 rwa [show (w.alloc (.cells D 41)).heap.size=w.heap.size+1 by simp] at this
theorem H0.hs {u:World} {rb:Nat} {w W W1:World} {k:Int} {nm hp:List UInt8} {lv0 lv:Value} {L:List La.Lb} {T:List UInt8} {n:Nat} (h:H0 u rb w (d4 k nm hp lv0) T n W) (hb:Below W.heap.size W W1) (hl:La.OwnL W.heap.size lv L W1):Hs u rb w W1.heap.size ⟨⟨k,nm,hp,L⟩,0,[],0,0,0,0⟩ lv (.slice none 0 0) T n ((W1.setCell ⟨w.heap.size,3,none⟩ lv).alloc (.cells (vc ⟨⟨k,nm,hp,L⟩,0,[],0,0,0,0⟩ lv (.slice none 0 0)) 45)):=by
 have lt:=h.lt
 have hs:=h.size
 have hs1:=hb.size
 have h1:=h.keep hb
 have hlo:=h.rd.lo
 have hsz:(W1.setCell ⟨w.heap.size,3,none⟩ lv).heap.size=W1.heap.size:=by simp [World.setCell]
 have nl:lv.ownBlock≠some w.heap.size:=own_far hl (by omega)
 have hr:=h1.rd.put ⟨w.heap.size,3,none⟩ lv (by show w.heap.size≠rb;omega) (Nat.le_refl _) (by show u.heap.size≤w.heap.size;omega)
 have hbl:=bel1 (W1.setCell ⟨w.heap.size,3,none⟩ lv) (.cells (vc ⟨⟨k,nm,hp,L⟩,0,[],0,0,0,0⟩ lv (.slice none 0 0)) 45)
 refine ⟨hr.below hbl,lt,hkN' ?_ hbl,hkN' ?_ hbl,?_,by omega,own_belL (own_mono (own_set1 hl nl lv) (by omega)) hbl,World.ownsRow_nil _ _ _ _⟩
 ·have:=Lib.heap_setCell_same (i:=3) h1.d lv
  rw [this]
  simp
 ·rw [heap_other _ _ _ _ (by show w.heap.size+1≠w.heap.size;omega)]
  exact h1.r
 ·have:=new_1 (W1.setCell ⟨w.heap.size,3,none⟩ lv) (.cells (vc ⟨⟨k,nm,hp,L⟩,0,[],0,0,0,0⟩ lv (.slice none 0 0)) 45)
  rwa [hsz] at this
structure HgR (p:Nat) (x:Vl) (T T':List UInt8):Prop where
 ex:∃ A y z T1 T2 S b1 b2,MoL T A y z T1∧Lib.hasPrefix A (x.d.name++bkB)=true∧Lib.trimPrefix A (x.d.name++bkB)=S∧othR x.d.name S=some x.d.labels∧LpR p A 0 x.cs y z T1 T2 ∧
  (cut10 T2).2.2=true∧spl (cut10 T2).1=some (La.printT (x.d.name++[95,115,117,109]) x.d.labels,b1)∧widR b1=some x.t ∧
  (cut10 (cut10 T2).2.1).2.2=true∧spl (cut10 (cut10 T2).2.1).1=some (La.printT (x.d.name++[95,99,111,117,110,116]) x.d.labels,b2)∧whoR b2=some x.n∧(cut10 (cut10 T2).2.1).2.1=T'∧x.n=(x.cs.map (·.2)).sum
 sm:x.sum=0∧x.mn=0∧x.mx=0
theorem lp_len {p:Nat} {A:List UInt8}:∀ {C:List Cn} {a:Nat} {y z T T':List UInt8},LpR p A a C y z T T'→T'.length≤T.length
 | [],_,_,_,_,_,h=>by rw [h.2.2];exact Nat.le_refl _
 | c::C,a,_,_,_,_,h=>by
  obtain ⟨_,_,_,_,_,y',z',T1,h1,h2⟩:=h
  have:=lp_len h2
  have:=cut_lt h1.1
  rw [h1.2.2] at this
  omega
theorem mor_len {name S x y z:List UInt8} (h:morR name S=some (x,y,z)):x.length≤S.length:=by
 unfold morR at h
 cases hs:spl S with
 | none=>rw [hs] at h;cases h
 | some ab =>
  rw [hs] at h
  simp only [Option.bind_some] at h
  split at h
  ·split at h
   ·simp only [Option.some.injEq,Prod.mk.injEq] at h
    have h1:=(spl_le2 (a:=ab.1) (b:=ab.2) hs).1
    have h2:=trimS_len ab.1 [34,125]
    rw [← h.1,List.length_take]
    omega
   ·cases h
  ·cases h
theorem histogram_ok (u:World) (rb:Nat) (p:Nat) (x:Vl) (lv0:Value) (T T':List UInt8) (n:Nat) (w:World) (h:Rd u rb w T n w) (hm:Mx u) (ht:Wi.Tab u) (hp1:1≤p) (hp2:p≤14) (hT:T.length≤4194304) (hn:n+x.cs.length≤4611686018427387000)
  (hN:x.d.name.length≤4194304) (hC:x.cs.length≤1048576) (hs:x.cs.Pairwise (fun a b=>a.1 < b.1)) (hv:∀ q ∈ x.d.labels,q.2.length≤9223372036854775807) (hP1:(La.printT (x.d.name++[95,115,117,109]) x.d.labels).length≤140737488355328) (hP2:(La.printT (x.d.name++[95,99,111,117,110,116]) x.d.labels).length≤140737488355328) (hR:HgR p x T T') :
  Calls Tryz.prog 136 #[.pointer (some ⟨rb,0,none⟩),.int .i64 (p:Int),.agg (d4 x.d.kind x.d.name x.d.help lv0)] w (VlR u rb w x T' (n+x.cs.length+3)):=by
 obtain ⟨⟨A,y,z,T1,T2,S,b1,b2,m1,m2,m3,m4,m5,m6,m7,m8,m9,m10,m11,m12,m13⟩,⟨s1,s2,s3⟩⟩:=hR
 obtain ⟨W0,hW0⟩:∃ W0,W0=(w.alloc (.cells (d4 x.d.kind x.d.name x.d.help lv0) 41)).alloc (.cells z11 45):=⟨_,rfl⟩
 have hH0:H0 u rb w (d4 x.d.kind x.d.name x.d.help lv0) T n W0:=by rw [hW0];exact H0.new _ h
 have HMo:La.HidC _ _ _ _ _:=more_any u rb T [108,101] n W0 W0 hH0.rd.re hm hT (by omega) (by decide)
 have hl1:T1.length < T.length:=by rw [← m1.2.2];exact cut_lt m1.1
 have HBh:Hid (∀ T n w0 W,Rd u rb w0 T n W→Calls Tryz.prog 27 #[.pointer (some ⟨rb,0,none⟩),.string ⟨A.toArray⟩,.string ⟨(x.d.name++bkB).toArray⟩] W fun e w'=>e=.returned (.string ⟨S.toArray⟩)∧w'=W):=fun T n w0 W k=>by
  refine Calls.mono (behind_any u rb T A (x.d.name++bkB) n w0 W k) ?_
  rintro e w' ⟨q0,⟨_,q1⟩ | ⟨q1,_⟩⟩
  ·rw [m3] at q1;exact ⟨q1,q0⟩
  ·rw [m2] at q1;cases q1
 have hSl:S.length≤4194304:=by
  have h1:=mor_len m1.2.1
  have h2:=(cut_len T).1
  have h3:=trim_len A (x.d.name++bkB)
  rw [m3] at h3
  omega
 have HOt:Hid (∀ T n w0 W,Rd u rb w0 T n W→Calls Tryz.prog 167 #[.pointer (some ⟨rb,0,none⟩),.string ⟨x.d.name.toArray⟩,.string ⟨S.toArray⟩] W fun e w'=>∃ la lc,e=.returned (.slice la x.d.labels.length lc)∧Hid (Below W.heap.size W w'∧La.OwnL W.heap.size (.slice la x.d.labels.length lc) x.d.labels w')):=fun T n w0 W k=>by
  refine Calls.mono (others_any u rb T x.d.name S n w0 W k hSl hN) ?_
  rintro e w' ⟨q0,⟨L',v,q1,rfl,q3⟩ | ⟨q1,_⟩⟩
  ·rw [m4] at q1
   cases q1
   obtain ⟨la,lg,lc,rfl,-⟩:=own_form q3
   exact ⟨la,lc,rfl,q0,q3⟩
  ·rw [m4] at q1;cases q1
 have sA:∀ W,(Op.stringOp .add ⟨x.d.name.toArray⟩ ⟨#[95,98,117,99,107,101,116,123]⟩).run Tryz.prog W=.ok (.string ⟨(x.d.name++bkB).toArray⟩) W:=fun W=>La.sadd x.d.name bkB (by simp;omega) W
 have HW0:=hid_of hW0
 have HH0:=hid_of hH0
 have HM1:=hid_of m1
 have HFin:Hid (∀ (f:Nat→Value) (W:World) (vb:Nat) (lv:Value),f 0=.pointer (some ⟨rb,0,none⟩)→f 1=.int .i64 (p:Int)→f 5=.pointer (some ⟨w.heap.size,0,none⟩)→f 6=.pointer (some ⟨w.heap.size+1,0,none⟩)→f 7=.string ⟨A.toArray⟩→f 8=.string ⟨y.toArray⟩→f 9=.string ⟨z.toArray⟩→f 10=.pointer (some ⟨vb,0,none⟩)→Hs u rb w vb ⟨x.d,0,[],0,0,0,0⟩ lv (.slice none 0 0) T1 (n+1) W→Code.wp Tryz.prog (sDrop 4 hB) (bodyPost Tryz.prog Tryz.f136 (VlR u rb w x T' (n+x.cs.length+3))) ⟨fr86 f,[]⟩ W):=fun f W vb lv e0 e1 e5 e6 e7 e8 e9 e10 hH=>by
  refine hist_loop u rb w W vb p x.d A y z x.cs lv (.slice none 0 0) T1 T2 (n+1) (n+1+x.cs.length) f _ hm ht hp1 hp2 (by omega) (by omega) hC hs e0 e1 e5 e6 e7 e8 e9 e10 hH m5 rfl ?_
  intro f1 z1 a cv W1 g0 g5 g6 g9 g10 gz ga gH
  have hax:a=x.n:=ga.trans m13.symm
  subst hax
  have hl2:=lp_len m5
  have hl3:=cut_lt m6
  refine hist_all u rb w W1 vb ⟨x.d,0,x.cs,x.n,0,0,0⟩ lv cv T2 z1 (n+1+x.cs.length) f1 _ ht g0 g5 g6 g9 g10 gz gH ?_
  intro f2 W2 g0 g5 g6 g10 gH
  refine hist_sum u rb w W2 vb ⟨x.d,0,x.cs,x.n,0,0,0⟩ lv cv T2 b1 x.t (n+1+x.cs.length) f2 _ hm ht (by omega) (by omega) hN hv hP1 g0 g5 g6 g10 gH m6 m7 m8 ?_
  intro f3 W3 g0 g5 g6 g10 gH
  refine hist_cnt u rb w W3 vb ⟨x.d,x.t,x.cs,x.n,0,0,0⟩ lv cv (cut10 T2).2.1 b2 (n+1+x.cs.length+1) f3 _ hm ht (by omega) (by omega) hN hv hP2 g0 g5 g6 g10 gH m9 m10 m11 ?_
  intro f4 W4 g0 g5 g6 g10 gH
  have hxe:(⟨x.d,x.t,x.cs,x.n,0,0,0⟩:Vl)=x:=by
   cases x
   simp only at s1 s2 s3
   subst s1
   subst s2
   subst s3
   rfl
  rw [hxe,m12,show n+1+x.cs.length+1+1=n+x.cs.length+3 by omega] at gH
  exact hist_fin u rb w W4 vb x lv cv T' (n+x.cs.length+3) f4 g6 g10 gH
 clear h hm ht hp1 hp2 hT hn hN hC hs hv hP1 hP2 m2 m3 m4 m5 m6 m7 m8 m9 m10 m11 m12 m13 hSl hl1 hW0 hH0 m1
 go_enter Tryz.func136,Tryz.ntmps136
 show Code.wp Tryz.prog (sDrop 0 hB) (bodyPost Tryz.prog Tryz.f136 (VlR u rb w x T' (n+x.cs.length+3))) _ _
 rw [hpt0]
 refine wp_seq_k fun K hK=>?_
 dsimp only [sDrop,sFirst,bodyC,hB,Tryz.f136]
 go_wp2_with fail
 rw [← HW0.out]
 clear HW0
 rw [hpt1]
 refine wp_seq_k fun K hK=>?_
 dsimp only [sDrop,sFirst,bodyC,hB,Tryz.f136]
 go_wp2_with fail
 refine Calls.mono HMo.out ?_
 rintro e w1 (⟨x1,y1,z1,k1,k2,rfl,k4⟩ | ⟨k1,_⟩)
 ·rw [HM1.out.2.1] at k2
  cases k2
  rw [HM1.out.2.2] at k4
  have HH1:=hid_of (HH0.out.called k4)
  clear k1 k4 HMo HH0 HM1
  go_wp2_with fail
  rw [hpt2]
  refine wp_seq_k fun K hK=>?_
  have HBe:Hid (∀ W',Below w1.heap.size w1 W'→Calls Tryz.prog 27 #[.pointer (some ⟨rb,0,none⟩),.string ⟨A.toArray⟩,.string ⟨(x.d.name++bkB).toArray⟩] W' fun e w'=>e=.returned (.string ⟨S.toArray⟩)∧w'=W'):=fun W' hb=>HBh.out _ _ _ W' (HH1.out.keep hb).rd
  have HOe:Hid (∀ W',Below w1.heap.size w1 W'→Calls Tryz.prog 167 #[.pointer (some ⟨rb,0,none⟩),.string ⟨x.d.name.toArray⟩,.string ⟨S.toArray⟩] W' fun e w'=>∃ la lc,e=.returned (.slice la x.d.labels.length lc)∧Hid (Below w1.heap.size w1 w'∧La.OwnL w1.heap.size (.slice la x.d.labels.length lc) x.d.labels w')):=fun W' hb=>(HOt.out _ _ _ W' (HH1.out.keep hb).rd).mono fun e w' ⟨la,lc,k1,k2⟩=>⟨la,lc,k1,bt hb k2.out.1,own_mono k2.out.2 hb.size⟩
  obtain ⟨c0,c1,c2,c3⟩:=four_cells HH1.out.d
  clear HBh HOt
  generalize x.d.name++bkB=V at *
  dsimp only [sDrop,sFirst,bodyC,hB,Tryz.f136]
  go_region_law
   (first
    | (rw [if_pos (by simp [Region.wanted])];go_simp;with_reducible refine Calls.mono (HBe.out _ (by first | exact Below.refl _ _ | exact (Below.refl _ _).drew)) ?_;rintro e w3 ⟨rfl,rfl⟩;simp only [])
    | (rw [if_pos (by simp [Region.wanted])];go_simp;with_reducible refine Calls.mono (HOe.out _ (by first | exact Below.refl _ _ | exact (Below.refl _ _).drew)) ?_;rintro e w5 ⟨la,lc,rfl,H5⟩;have hd5:=(HH1.out.keep H5.out.1).d;obtain ⟨y0,y1,y2,y3⟩:=four_cells hd5;have fz:w5.frozen? ⟨w.heap.size,3,none⟩=false:=(by simp [World.frozen?,hd5]);simp only []))
  all_goals
   refine hK _ _ ?_
   have HHs:=hid_of (HH1.out.hs H5.out.1 H5.out.2)
   have hd6:=Lib.heap_setCell_same (i:=3) hd5 (.slice la x.d.labels.length lc)
   have hd7:(w5.setCell ⟨w.heap.size,3,none⟩ (.slice la x.d.labels.length lc)).heap[w.heap.size]? =some (.cells #[.int .i64 x.d.kind,.string ⟨x.d.name.toArray⟩,.string ⟨x.d.help.toArray⟩,.slice la x.d.labels.length lc] 41):=by simpa using hd6
   have hsz:(w5.setCell ⟨w.heap.size,3,none⟩ (.slice la x.d.labels.length lc)).heap.size=w5.heap.size:=by simp [World.setCell]
   have HSz:=hid_of hsz
   obtain ⟨g0,g1,g2,g3⟩:=four_cells hd7
   clear hd5 hd6 hd7 y0 y1 y2 y3 c0 c1 c2 c3 H5 HBe HOe hK hsz
   generalize w5.setCell ⟨w.heap.size,3,none⟩ (.slice la x.d.labels.length lc)=w6 at *
   rw [hpt3]
   refine wp_seq_k fun K hK=>?_
   have sF:=store_f
   dsimp only [sDrop,sFirst,bodyC,hB,Tryz.f136]
   go_wp2_with fail
   refine wp_fr86 rfl ?_
   exact HFin.out _ _ w5.heap.size _ rfl rfl rfl rfl rfl rfl rfl (by rw [← HSz.out];rfl) HHs.out
 ·have q:=HM1.out.2.1
  rw [k1 HM1.out.1] at q
  cases q
end Go.Proofs.YtfkbjdgbpenflaaGreatDoor.Sc
