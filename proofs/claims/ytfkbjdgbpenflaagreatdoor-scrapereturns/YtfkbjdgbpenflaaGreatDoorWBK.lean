/- THE READER: summary, all of it. Own work of the verifier. -/
import Derived.Test.YtfkbjdgbpenflaaGreatDoorWBJ
import Derived.Test.YtfkbjdgbpenflaaGreatDoorWBF
set_option maxRecDepth 100000
set_option maxHeartbeats 8000000
namespace Go.Proofs.YtfkbjdgbpenflaaGreatDoor.Sc
open Go.RowKit Me
structure SuR (x:Vl) (T T':List UInt8) (k:Nat):Prop where
 cs:x.cs=[]
 t:x.t=0
 ex:(∃ A S z1 z2 b b2 T1 T2,Lib.hasPrefix T (x.d.name++[95,115,117,109])=false∧MoQ T A [48] z1 T1∧Lib.hasPrefix A (x.d.name++[123])=true∧Lib.trimPrefix A (x.d.name++[123])=S∧othR x.d.name S=some x.d.labels∧RPf z1 x.mn∧MoQ T1 A [49] z2 T2∧RPf z2 x.mx ∧
   (cut10 T2).2.2=true∧spl (cut10 T2).1=some (La.printT (x.d.name++[95,115,117,109]) x.d.labels,b)∧RPf b x.sum ∧
   (cut10 (cut10 T2).2.1).2.2=true∧spl (cut10 (cut10 T2).2.1).1=some (La.printT (x.d.name++[95,99,111,117,110,116]) x.d.labels,b2)∧whoR b2=some x.n∧x.n≠0∧(cut10 (cut10 T2).2.1).2.1=T'∧k=4) ∨
  (∃ a S b b2,Lib.hasPrefix T (x.d.name++[95,115,117,109])=true∧(cut10 T).2.2=true∧spl (cut10 T).1=some (a,b)∧Lib.hasPrefix a (x.d.name++[95,115,117,109])=true∧Lib.trimPrefix a (x.d.name++[95,115,117,109])=S∧labR x.d.name (x.d.name++S)=some x.d.labels∧RPf b x.sum ∧
   (cut10 (cut10 T).2.1).2.2=true∧spl (cut10 (cut10 T).2.1).1=some (La.printT (x.d.name++[95,99,111,117,110,116]) x.d.labels,b2)∧whoR b2=some x.n∧x.n=0∧x.mn=0∧x.mx=0∧(cut10 (cut10 T).2.1).2.1=T'∧k=2)
theorem vl_eta (x:Vl) (h1:x.cs=[]) (h2:x.t=0):(⟨x.d,0,[],x.n,x.sum,x.mn,x.mx⟩:Vl)=x:=by
 cases x
 simp only at h1 h2
 subst h1
 subst h2
 rfl
theorem summary_ok (u:World) (rb:Nat) (x:Vl) (T T':List UInt8) (k n:Nat) (w:World) (h:Rd u rb w T n w) (hm:Mx u) (ht:Wi.Tab u) (hT:T.length≤4194304) (hn:n≤4611686018427387000) (hN:x.d.name.length≤4194304) (hv:∀ q ∈ x.d.labels,q.2.length≤9223372036854775807) (hP1:(La.printT (x.d.name++[95,115,117,109]) x.d.labels).length≤140737488355328) (hP2:(La.printT (x.d.name++[95,99,111,117,110,116]) x.d.labels).length≤140737488355328) (hR:SuR x T T' k) :
  Calls Tryz.prog 137 #[.pointer (some ⟨rb,0,none⟩),.agg (d4 x.d.kind x.d.name x.d.help (.slice none 0 0))] w (VlR u rb w x T' (n+k)):=by
 obtain ⟨r1,r2,r3⟩:=hR
 obtain ⟨W0,hW0⟩:∃ W0,W0=(w.alloc (.cells (d4 x.d.kind x.d.name x.d.help (.slice none 0 0)) 41)).alloc (.cells z11 45):=⟨_,rfl⟩
 have hH0:H0 u rb w (d4 x.d.kind x.d.name x.d.help (.slice none 0 0)) T n W0:=by rw [hW0];exact H0.new _ h
 have hsz0:W0.heap.size=w.heap.size+2:=by rw [hW0];simp
 obtain ⟨W1,hW1⟩:∃ W1,W1=W0.alloc (.cells (vc ⟨x.d,0,[],0,0,0,0⟩ (.slice none 0 0) (.slice none 0 0)) 45):=⟨_,rfl⟩
 have hS1:Sm u rb w ⟨x.d,0,[],0,0,0,0⟩ (.slice none 0 0) (.slice none 0 0) T n W1:=by
  have k1:=hH0.keep (bel1 W0 (.cells (vc ⟨x.d,0,[],0,0,0,0⟩ (.slice none 0 0) (.slice none 0 0)) 45))
  rw [hW1]
  refine ⟨k1.rd,k1.lt,k1.d,k1.r,?_⟩
  have:=new_1 W0 (.cells (vc ⟨x.d,0,[],0,0,0,0⟩ (.slice none 0 0) (.slice none 0 0)) 45)
  rwa [hsz0] at this
 have HPx:Hid (∀ W,Calls Tryz.prog 59 #[.string ⟨T.toArray⟩,.string ⟨(x.d.name++[95,115,117,109]).toArray⟩] W fun e w'=>e=.returned (.bool (Lib.hasPrefix T (x.d.name++[95,115,117,109])))∧w'=W):=by
  have key:∀ (s V:List UInt8) (W:World),Calls Tryz.prog 59 #[.string ⟨s.toArray⟩,.string ⟨V.toArray⟩] W fun e w'=>e=.returned (.bool (Lib.hasPrefix s V))∧w'=W:=fun s V W=>Tryz.strings_HasPrefix ⟨s.toArray⟩ ⟨V.toArray⟩ W
  exact fun W=>key T (x.d.name++[95,115,117,109]) W
 have sA:∀ W,(Op.stringOp .add ⟨x.d.name.toArray⟩ ⟨#[95,115,117,109]⟩).run Tryz.prog W=.ok (.string ⟨(x.d.name++[95,115,117,109]).toArray⟩) W:=fun W=>La.sadd x.d.name [95,115,117,109] (by simp;omega) W
 have HFin:Hid (∀ (f:Nat→Value) (W:World),f 0=.pointer (some ⟨rb,0,none⟩)→f 3=.pointer (some ⟨w.heap.size,0,none⟩)→f 4=.pointer (some ⟨w.heap.size+1,0,none⟩)→f 5=.pointer (some ⟨w.heap.size+2,0,none⟩)→f 6=.bool (Lib.hasPrefix T (x.d.name++[95,115,117,109]))→Sm u rb w ⟨x.d,0,[],0,0,0,0⟩ (.slice none 0 0) (.slice none 0 0) T n W→Code.wp Tryz.prog (sDrop 3 sB) (bodyPost Tryz.prog Tryz.f137 (VlR u rb w x T' (n+k))) ⟨fr77 f,[]⟩ W):=fun f W e0 e3 e4 e5 e6 hS=>by
  have hxe:=vl_eta x r1 r2
  rcases r3 with ⟨A,S,z1,z2,b,b2,T1,T2,q1,q2,q3,q4,q5,q6,q7,q8,q9,q10,q11,q12,q13,q14,q15,q16,rfl⟩ | ⟨a,S,b,b2,q1,q2,q3,q4,q5,q6,q7,q8,q9,q10,q11,q12,q13,q14,rfl⟩
  ·rw [q1] at e6
   have hl1:T1.length < T.length:=by rw [← q2.2.2];exact cut_lt q2.1
   have hl2:T2.length < T1.length:=by rw [← q7.2.2];exact cut_lt q7.1
   have hl3:=cut_lt q9
   refine sum_some u rb w W ⟨x.d,0,[],0,0,0,0⟩ (.slice none 0 0) A S z1 z2 b T T1 T2 x.mn x.mx x.sum n f _ hm hT (by omega) hN hv hP1 e0 e3 e4 e5 e6 hS q2 q3 q4 q5 q6 q7 q8 q9 q10 q11 ?_
   intro f1 lv W1 g0 g3 g4 g5 g6 gH gL
   have gF:=sum_cnt u rb w W1 ⟨x.d,0,[],0,x.sum,x.mn,x.mx⟩ lv (.slice none 0 0) (cut10 T2).2.1 b2 x.n (n+3) false f1 hm ht (by omega) (by omega) hN hv hP2 g0 g3 g4 g5 g6 gH gL rfl q12 q13 q14 (decide_eq_false q15).symm
   rw [show ({ (⟨x.d,0,[],0,x.sum,x.mn,x.mx⟩:Vl) with n:=x.n }:Vl)=x from hxe,q16] at gF
   exact gF
  ·rw [q1] at e6
   have hl3:=cut_lt q2
   refine sum_none u rb w W ⟨x.d,0,[],0,0,0,0⟩ (.slice none 0 0) a S b T x.sum n f _ hm hT (by omega) hN e0 e3 e4 e5 e6 hS q2 q3 q4 q5 q6 q7 ?_
   intro f1 lv W1 g0 g3 g4 g5 g6 gH gL
   have gF:=sum_cnt u rb w W1 ⟨x.d,0,[],0,x.sum,0,0⟩ lv (.slice none 0 0) (cut10 T).2.1 b2 x.n (n+1) true f1 hm ht (by omega) (by omega) hN hv hP2 g0 g3 g4 g5 g6 gH gL rfl q8 q9 q10 (decide_eq_true q11).symm
   rw [q12,q13] at hxe
   rw [show ({ (⟨x.d,0,[],0,x.sum,0,0⟩:Vl) with n:=x.n }:Vl)=x from hxe,q14] at gF
   exact gF
 generalize Lib.hasPrefix T (x.d.name++[95,115,117,109])=em at *
 have HW0:=hid_of hW0
 have HW1:=hid_of hW1
 have HH0:=hid_of hH0
 have HS1:=hid_of hS1
 have HSz0:=hid_of hsz0
 have sF:=store_f
 clear h hm ht hT hn hN hv hP1 hP2 r1 r2 r3 hW0 hW1 hH0 hS1 hsz0
 generalize x.d.name++[(95:UInt8),115,117,109]=V at *
 go_enter Tryz.func137,Tryz.ntmps137
 show Code.wp Tryz.prog (sDrop 0 sB) (bodyPost Tryz.prog Tryz.f137 (VlR u rb w x T' (n+k))) _ _
 rw [spt0]
 refine wp_seq_k fun K hK=>?_
 dsimp only [sDrop,sFirst,bodyC,sB,Tryz.f137]
 go_wp2_with fail
 rw [← HW0.out]
 rw [spt1]
 refine wp_seq_k fun K hK=>?_
 obtain ⟨c0,c1,c2,c3⟩:=four_cells HH0.out.d
 dsimp only [sDrop,sFirst,bodyC,sB,Tryz.f137]
 go_wp2_with fail
 change Code.wp _ _ _ _ (W0.alloc (.cells (vc ⟨x.d,0,[],0,0,0,0⟩ (.slice none 0 0) (.slice none 0 0)) 45))
 rw [← HW1.out,HSz0.out]
 clear HW0 HW1 HH0 HSz0 c0 c1 c2 c3 sF
 rw [spt2]
 refine wp_seq_k fun K hK=>?_
 obtain ⟨c0,c1,-,-⟩:=HS1.out.rd.cells
 obtain ⟨d0,d1,d2,d3⟩:=four_cells HS1.out.d
 dsimp only [sDrop,sFirst,bodyC,sB,Tryz.f137]
 go_region_law
  (rw [if_pos (by simp [Region.wanted])];go_simp;with_reducible refine Calls.mono (HPx.out _) ?_;rintro e w3 ⟨rfl,rfl⟩;simp only [])
 all_goals
  refine hK _ _ (wp_fr77 rfl ?_)
  exact HFin.out _ _ rfl rfl rfl rfl rfl (HS1.out.keep (bel_dn (Below.refl _ _) 1))
def VaR (p:Nat) (x:Vl) (T T':List UInt8) (k:Nat):Prop :=
 (x.d.kind=1∧(cut10 T).2.2=true∧cntR x.d.name (cut10 T).1=some (x.d.labels,x.t)∧(cut10 T).2.1=T'∧x=⟨x.d,x.t,[],0,0,0,0⟩∧k=1) ∨
 (x.d.kind=2∧HgR p x T T'∧x.cs.Pairwise (fun a b=>a.1 < b.1)∧k=x.cs.length+3) ∨
 (x.d.kind=3∧SuR x T T' k)
structure VaW (x:Vl):Prop where
 n:x.d.name.length≤4194304
 c:x.cs.length≤1048576
 v:∀ q ∈ x.d.labels,q.2.length≤9223372036854775807
 s:(La.printT (x.d.name++[95,115,117,109]) x.d.labels).length≤140737488355328
 k:(La.printT (x.d.name++[95,99,111,117,110,116]) x.d.labels).length≤140737488355328
theorem kind_calls (u:World) (rb:Nat) (p:Nat) (x:Vl) (T T':List UInt8) (k n:Nat) (hm:Mx u) (ht:Wi.Tab u) (hp1:1≤p) (hp2:p≤14) (hT:T.length≤4194304) (hn:n+x.cs.length≤4611686018427387000) (hw:VaW x) (hR:VaR p x T T' k) :
  (x.d.kind=1∧∀ W,Rd u rb W T n W→Calls Tryz.prog 135 #[.pointer (some ⟨rb,0,none⟩),.agg (d4 x.d.kind x.d.name x.d.help (.slice none 0 0))] W (VlR u rb W x T' (n+k))) ∨
  (x.d.kind=2∧∀ W,Rd u rb W T n W→Calls Tryz.prog 136 #[.pointer (some ⟨rb,0,none⟩),.int .i64 (p:Int),.agg (d4 x.d.kind x.d.name x.d.help (.slice none 0 0))] W (VlR u rb W x T' (n+k))) ∨
  (x.d.kind=3∧∀ W,Rd u rb W T n W→Calls Tryz.prog 137 #[.pointer (some ⟨rb,0,none⟩),.agg (d4 x.d.kind x.d.name x.d.help (.slice none 0 0))] W (VlR u rb W x T' (n+k))):=by
 rcases hR with ⟨q1,q2,q3,q4,q5,rfl⟩ | ⟨q1,q2,q3,rfl⟩ | ⟨q1,q2⟩
 ·refine Or.inl ⟨q1,fun W h=>?_⟩
  refine Calls.mono (counter_ok u rb T x.d.name x.d.help x.d.kind _ n x.d.labels x.t W h hm ht hT (by omega) q2 q3) ?_
  rintro e w' ⟨v,rfl,k1,k2⟩
  rw [q4] at k1
  have hx:=q5
  have e1:x.cs=[]:=by rw [hx]
  refine ⟨v,.slice none 0 0,?_,k1,k2,by rw [e1];exact World.ownsRow_nil _ _ _ _⟩
  have e2:vc x v (.slice none 0 0)=cvV x.d.kind x.d.name x.d.help v x.t:=by
   conv=>lhs;rw [hx]
   rfl
  rw [e2]
 ·refine Or.inr (Or.inl ⟨q1,fun W h=>?_⟩)
  exact histogram_ok u rb p x _ T T' n W h hm ht hp1 hp2 hT hn hw.n hw.c q3 hw.v hw.s hw.k q2
 ·exact Or.inr (Or.inr ⟨q1,fun W h=>summary_ok u rb x T T' k n W h hm ht hT (by omega) hw.n hw.v hw.s hw.k q2⟩)
theorem value_all (u:World) (rb:Nat) (p:Nat) (x:Vl) (T T':List UInt8) (k n:Nat) (w:World) (h:Rd u rb w T n w) (hm:Mx u) (ht:Wi.Tab u) (hp1:1≤p) (hp2:p≤14) (hT:T.length≤4194304) (hn:n+x.cs.length≤4611686018427387000) (hw:VaW x) (hR:VaR p x T T' k) :
  Calls Tryz.prog 96 #[.pointer (some ⟨rb,0,none⟩),.int .i64 (p:Int),.agg (d4 x.d.kind x.d.name x.d.help (.slice none 0 0))] w (VlR u rb w x T' (n+k)):=by
 obtain ⟨W0,hW0⟩:∃ W0,W0=(w.alloc (.cells (d4 x.d.kind x.d.name x.d.help (.slice none 0 0)) 41)).alloc (.cells z11 45):=⟨_,rfl⟩
 have hH0:H0 u rb w (d4 x.d.kind x.d.name x.d.help (.slice none 0 0)) T n W0:=by rw [hW0];exact H0.new _ h
 have hK:=kind_calls u rb p x T T' k n hm ht hp1 hp2 hT hn hw hR
 obtain ⟨c0,c1,c2,c3⟩:=four_cells hH0.d
 have HW0:=hid_of hW0
 have HH0:=hid_of hH0
 clear h hm ht hp1 hp2 hT hn hw hR hW0 hH0
 go_enter Tryz.func96,Tryz.ntmps96
 go_upto_region 1 with fail
 rw [← HW0.out]
 clear HW0
 rcases hK with ⟨q,hc⟩ | ⟨q,hc⟩ | ⟨q,hc⟩
 ·have HC:La.HidC _ _ _ _ _:=hc W0 HH0.out.rd.re
  have b1:(x.d.kind == 1)=true:=by rw [q];rfl
  clear q hc
  go_wp2_with fail
  refine Calls.mono HC.out ?_
  rintro e w1 ⟨lv,cv,rfl,hr,hl,hc⟩
  obtain ⟨la,lg,lc,rfl,-⟩:=own_form hl
  obtain ⟨ca,cg,cc,rfl,-⟩:=own_slice hc
  have hH1:=HH0.out.called hr
  have hx4:=hH1.r
  have hz:=HH0.out.size
  have hlo:=hH1.rd.lo
  have hlt:=hH1.lt
  obtain ⟨y0,y1,y2,y3,y4,y5,y6,y7,y8,y9,y10,f⟩:=elev hx4
  have HF:Hid (VlR u rb w x T' (n+k) (.returned (.agg (vc x (.slice la x.d.labels.length lc) (.slice ca x.cs.length cc)))) (put11 w1 (w.heap.size+1) (.int .i64 x.d.kind) (.string ⟨x.d.name.toArray⟩) (.string ⟨x.d.help.toArray⟩) (.slice la x.d.labels.length lc) (.int .i64 (hiOf x.t)) (.int .u64 (loOf x.t)) (.slice ca x.cs.length cc) (.int .u64 (x.n:Int)) (.float .f64 x.sum) (.float .f64 x.mn) (.float .f64 x.mx))):=⟨_,_,rfl,hH1.rd.put11 _ _ _ _ _ _ _ _ _ _ _ _ (by omega) (by omega) (by omega),own_put11G (own_mono hl (by omega)) (own_far hl (by omega)) _ _ _ _ _ _ _ _ _ _ _,own_put11G (own_leG hc (by omega)) (own_neG hc (by omega)) _ _ _ _ _ _ _ _ _ _ _⟩
  have HP:=hid_of (put11_heap hx4 (.int .i64 x.d.kind) (.string ⟨x.d.name.toArray⟩) (.string ⟨x.d.help.toArray⟩) (.slice la x.d.labels.length lc) (.int .i64 (hiOf x.t)) (.int .u64 (loOf x.t)) (.slice ca x.cs.length cc) (.int .u64 (x.n:Int)) (.float .f64 x.sum) (.float .f64 x.mn) (.float .f64 x.mx))
  have sF:=store_f
  clear c0 c1 c2 c3 hx4 hr hl hc HC HH0 hH1 hz hlo hlt
  go_wp2_with fail
  refine bodyPost_ret (results_cell_row (P:=Tryz.prog) rfl _ _ (w.heap.size+1) 45 _ (0,0) _ rfl HP.out Tryz.underlying45 rfl (by kernel_rfl)) rfl ?_
  exact HF.out
 ·have HC:La.HidC _ _ _ _ _:=hc W0 HH0.out.rd.re
  have b1:(x.d.kind == 1)=false:=by rw [q];rfl
  have b2:(x.d.kind == 2)=true:=by rw [q];rfl
  clear q hc
  go_wp2_with fail
  refine Calls.mono HC.out ?_
  rintro e w1 ⟨lv,cv,rfl,hr,hl,hc⟩
  obtain ⟨la,lg,lc,rfl,-⟩:=own_form hl
  obtain ⟨ca,cg,cc,rfl,-⟩:=own_slice hc
  have hH1:=HH0.out.called hr
  have hx4:=hH1.r
  have hz:=HH0.out.size
  have hlo:=hH1.rd.lo
  have hlt:=hH1.lt
  obtain ⟨y0,y1,y2,y3,y4,y5,y6,y7,y8,y9,y10,f⟩:=elev hx4
  have HF:Hid (VlR u rb w x T' (n+k) (.returned (.agg (vc x (.slice la x.d.labels.length lc) (.slice ca x.cs.length cc)))) (put11 w1 (w.heap.size+1) (.int .i64 x.d.kind) (.string ⟨x.d.name.toArray⟩) (.string ⟨x.d.help.toArray⟩) (.slice la x.d.labels.length lc) (.int .i64 (hiOf x.t)) (.int .u64 (loOf x.t)) (.slice ca x.cs.length cc) (.int .u64 (x.n:Int)) (.float .f64 x.sum) (.float .f64 x.mn) (.float .f64 x.mx))):=⟨_,_,rfl,hH1.rd.put11 _ _ _ _ _ _ _ _ _ _ _ _ (by omega) (by omega) (by omega),own_put11G (own_mono hl (by omega)) (own_far hl (by omega)) _ _ _ _ _ _ _ _ _ _ _,own_put11G (own_leG hc (by omega)) (own_neG hc (by omega)) _ _ _ _ _ _ _ _ _ _ _⟩
  have HP:=hid_of (put11_heap hx4 (.int .i64 x.d.kind) (.string ⟨x.d.name.toArray⟩) (.string ⟨x.d.help.toArray⟩) (.slice la x.d.labels.length lc) (.int .i64 (hiOf x.t)) (.int .u64 (loOf x.t)) (.slice ca x.cs.length cc) (.int .u64 (x.n:Int)) (.float .f64 x.sum) (.float .f64 x.mn) (.float .f64 x.mx))
  have sF:=store_f
  clear c0 c1 c2 c3 hx4 hr hl hc HC HH0 hH1 hz hlo hlt
  go_wp2_with fail
  refine bodyPost_ret (results_cell_row (P:=Tryz.prog) rfl _ _ (w.heap.size+1) 45 _ (0,0) _ rfl HP.out Tryz.underlying45 rfl (by kernel_rfl)) rfl ?_
  exact HF.out
 ·have HC:La.HidC _ _ _ _ _:=hc W0 HH0.out.rd.re
  have b1:(x.d.kind == 1)=false:=by rw [q];rfl
  have b2:(x.d.kind == 2)=false:=by rw [q];rfl
  clear q hc
  go_wp2_with fail
  refine Calls.mono HC.out ?_
  rintro e w1 ⟨lv,cv,rfl,hr,hl,hc⟩
  obtain ⟨la,lg,lc,rfl,-⟩:=own_form hl
  obtain ⟨ca,cg,cc,rfl,-⟩:=own_slice hc
  have hH1:=HH0.out.called hr
  have hx4:=hH1.r
  have hz:=HH0.out.size
  have hlo:=hH1.rd.lo
  have hlt:=hH1.lt
  obtain ⟨y0,y1,y2,y3,y4,y5,y6,y7,y8,y9,y10,f⟩:=elev hx4
  have HF:Hid (VlR u rb w x T' (n+k) (.returned (.agg (vc x (.slice la x.d.labels.length lc) (.slice ca x.cs.length cc)))) (put11 w1 (w.heap.size+1) (.int .i64 x.d.kind) (.string ⟨x.d.name.toArray⟩) (.string ⟨x.d.help.toArray⟩) (.slice la x.d.labels.length lc) (.int .i64 (hiOf x.t)) (.int .u64 (loOf x.t)) (.slice ca x.cs.length cc) (.int .u64 (x.n:Int)) (.float .f64 x.sum) (.float .f64 x.mn) (.float .f64 x.mx))):=⟨_,_,rfl,hH1.rd.put11 _ _ _ _ _ _ _ _ _ _ _ _ (by omega) (by omega) (by omega),own_put11G (own_mono hl (by omega)) (own_far hl (by omega)) _ _ _ _ _ _ _ _ _ _ _,own_put11G (own_leG hc (by omega)) (own_neG hc (by omega)) _ _ _ _ _ _ _ _ _ _ _⟩
  have HP:=hid_of (put11_heap hx4 (.int .i64 x.d.kind) (.string ⟨x.d.name.toArray⟩) (.string ⟨x.d.help.toArray⟩) (.slice la x.d.labels.length lc) (.int .i64 (hiOf x.t)) (.int .u64 (loOf x.t)) (.slice ca x.cs.length cc) (.int .u64 (x.n:Int)) (.float .f64 x.sum) (.float .f64 x.mn) (.float .f64 x.mx))
  have sF:=store_f
  clear c0 c1 c2 c3 hx4 hr hl hc HC HH0 hH1 hz hlo hlt
  go_wp2_with fail
  refine bodyPost_ret (results_cell_row (P:=Tryz.prog) rfl _ _ (w.heap.size+1) 45 _ (0,0) _ rfl HP.out Tryz.underlying45 rfl (by kernel_rfl)) rfl ?_
  exact HF.out
end Go.Proofs.YtfkbjdgbpenflaaGreatDoor.Sc
