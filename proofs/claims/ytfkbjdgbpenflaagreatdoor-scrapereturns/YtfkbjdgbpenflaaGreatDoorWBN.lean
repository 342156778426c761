/- THE READER: a family. Own work of the verifier. -/
import Derived.Test.YtfkbjdgbpenflaaGreatDoorWBM
import Derived.Test.YtfkbjdgbpenflaaGreatDoorWBL
set_option maxRecDepth 100000
set_option maxHeartbeats 8000000
namespace Go.Proofs.YtfkbjdgbpenflaaGreatDoor.Sc
open Go.RowKit Me
structure FaR (p:Nat) (d:La.Ds) (xs:List Vl) (T T':List UInt8) (k:Nat):Prop where
 h1:(cut10 T).2.2=true
 h2:heR (cut10 T).1=some (d.name,d.help)
 h3:(cut10 (cut10 T).2.1).2.2=true
 h4:tyR d.name (cut10 (cut10 T).2.1).1=d.kind
 h5:d.kind≠0
 h6:1≤k
 h7:SeL p d xs (cut10 (cut10 T).2.1).2.1 T' (k - 1)
theorem family_all (u:World) (rb sb B p r:Nat) (d:La.Ds) (hm:Mx u) (ht:Wi.Tab u) (hp1:1≤p) (hp2:p≤14) (x:Vl) (xs:List Vl) (v:Value) (R:List Rv) (T T':List UInt8) (n k:Nat) (w:World) (hT:T.length≤4194304) (hN:n+1+k≤4611686018400000000) (hnm:d.name.length≤4194304) (hl:R.length≤256)
  (hS:Ss u rb sb B p r v R T n w) (hA:AlW p r (R.map (·.1)) (x::xs) n) (hR:FaR p d (x::xs) T T' k) (hla:∀ q,R.getLast? =some q→q.1.d.name≠d.name) :
  Calls Tryz.prog 30 #[.pointer (some ⟨rb,0,none⟩),.pointer (some ⟨sb,0,none⟩)] w (fun e w'=>e=.returned (.tuple #[])∧∃ v' R',R'.map (·.1)=x::xs∧Ss u rb sb B p r v' (R++R') T' (n+1+k) w'∧Chg (fun b=>b=rb∨b=sb∨B≤b) w w'):=by
 have hl1:=cut_lt hR.h1
 have HH:La.HidC _ _ _ _ _:=help_any u rb T n w w hS.rd hm hT (by omega)
 have hA1:AlW p r (R.map (·.1)) (x::xs) (n+1):=⟨hA.w,hA.z,hA.c,by omega⟩
 have HFr:Hid (∀ (db:Nat) (f:Nat→Value) (W:World),db≠rb→db≠sb→B≤db→f 0=.pointer (some ⟨rb,0,none⟩)→f 1=.pointer (some ⟨sb,0,none⟩)→f 4=.pointer (some ⟨db,0,none⟩)→Ss u rb sb B p r v R (cut10 T).2.1 (n+1) W→W.heap[db]? =some (.cells (d4 0 d.name d.help (.slice none 0 0)) 41)→Chg (fun b=>b=rb∨b=sb∨B≤b) w W→Code.wp Tryz.prog (sDrop 3 fB) (bodyPost Tryz.prog Tryz.f30 (fun e w'=>e=.returned (.tuple #[])∧∃ v' R',R'.map (·.1)=x::xs∧Ss u rb sb B p r v' (R++R') T' (n+1+k) w'∧Chg (fun b=>b=rb∨b=sb∨B≤b) w w')) ⟨fr58 f,[]⟩ W):=fun db f W a1 a2 a3 e0 e1 e4 g1 g2 g3 =>
  fam_rest u rb sb B p r db d hm ht hp1 hp2 a1 a2 a3 x xs v R (cut10 T).2.1 (cut10 (cut10 T).2.1).2.1 T' (n+1) k w W f (by omega) (by omega) hnm e0 e1 e4 g1 g2 hA1 hR.h3 hR.h4 hR.h5 rfl hR.h6 hR.h7 g3
 have HNm:Hid (∀ (db:Nat) (f:Nat→Value) (W:World),db≠rb→db≠sb→B≤db→f 0=.pointer (some ⟨rb,0,none⟩)→f 1=.pointer (some ⟨sb,0,none⟩)→f 4=.pointer (some ⟨db,0,none⟩)→f 5=.int .i64 (R.length:Int)→Ss u rb sb B p r v R (cut10 T).2.1 (n+1) W→W.heap[db]? =some (.cells (d4 0 d.name d.help (.slice none 0 0)) 41)→Chg (fun b=>b=rb∨b=sb∨B≤b) w W→Code.wp Tryz.prog (sDrop 2 fB) (bodyPost Tryz.prog Tryz.f30 (fun e w'=>e=.returned (.tuple #[])∧∃ v' R',R'.map (·.1)=x::xs∧Ss u rb sb B p r v' (R++R') T' (n+1+k) w'∧Chg (fun b=>b=rb∨b=sb∨B≤b) w w')) ⟨fr58 f,[]⟩ W):=fun db f W a1 a2 a3 e0 e1 e4 e5 g1 g2 g3=>by
  rcases List.eq_nil_or_concat R with hR0 | ⟨Q,q,hRq⟩
  ·subst hR0
   exact fam_name0 u rb sb B p r db ⟨0,d.name,d.help,[]⟩ v _ _ W f _ e0 e1 e4 e5 g1 g2 (fun f' W' c0 c1 c4 k1 k2 k3=>HFr.out db f' W' a1 a2 a3 c0 c1 c4 k1 k2 (g3.trans (Chg.of_below (S:=(fun b=>b=rb∨b=sb∨B≤b)) k3) (fun b e=>Or.inl e)))
  ·rw [List.concat_eq_append] at hRq
   subst hRq
   exact fam_name1 u rb sb B p r db ⟨0,d.name,d.help,[]⟩ v Q q _ _ W f _ (by simp at hl;omega) (hla q (by simp)) e0 e1 e4 (by rw [e5];simp) g1 g2 (fun f' W' c0 c1 c4 k1 k2 k3=>HFr.out db f' W' a1 a2 a3 c0 c1 c4 k1 k2 (g3.trans (Chg.of_below (S:=(fun b=>b=rb∨b=sb∨B≤b)) k3) (fun b e=>Or.inl e)))
 have HQ:=hid_of (⟨hR.h1,hR.h2⟩:_∧_)
 have HS:=hid_of hS
 clear hm ht hT hN hnm hA hA1 hR hla hl1 HFr
 go_enter Tryz.func30,Tryz.ntmps30
 show Code.wp Tryz.prog (sDrop 0 fB) (bodyPost Tryz.prog Tryz.f30 (fun e w'=>e=.returned (.tuple #[])∧∃ v' R',R'.map (·.1)=x::xs∧Ss u rb sb B p r v' (R++R') T' (n+1+k) w'∧Chg (fun b=>b=rb∨b=sb∨B≤b) w w')) _ _
 rw [fpt0]
 refine wp_seq_k fun K hK=>?_
 dsimp only [sDrop,sFirst,bodyC,fB,Tryz.f30]
 go_wp2_with fail
 refine Calls.mono HH.out ?_
 rintro e w1 (⟨nm',hp',-,q2,rfl,hr⟩ | ⟨-,q2,-,-⟩ | ⟨q1,-,-⟩)
 ·rw [HQ.out.2] at q2
  cases q2
  have h1:=HS.out.called hr
  obtain ⟨W2,hW2⟩:∃ W2,W2=w1.alloc (.cells (d4 0 d.name d.help (.slice none 0 0)) 41):=⟨_,rfl⟩
  have HS2:Hid (Ss u rb sb B p r v R (cut10 T).2.1 (n+1) W2):=by unfold Hid;rw [hW2];exact h1.keep (bel1 _ _)
  have HD2:Hid (W2.heap[w1.heap.size]? =some (.cells (d4 0 d.name d.help (.slice none 0 0)) 41)):=by unfold Hid;rw [hW2];exact new_1 w1 _
  have HB:Hid (w1.heap.size≠rb∧w1.heap.size≠sb∧B≤w1.heap.size):=by
   have a1:=h1.rB
   have a2:=h1.sB
   have a3:=h1.sz
   unfold Hid
   omega
  have HC2:Hid (Chg (fun b=>b=rb∨b=sb∨B≤b) w W2):=by unfold Hid;rw [hW2];exact ((Chg.refl (fun b=>b=rb∨b=sb∨B≤b) w).trans hr.ch (fun b e=>Or.inl (Or.inl e))).trans (Chg.of_below (S:=(fun b=>b=rb∨b=sb∨B≤b)) (bel1 _ _)) (fun b e=>Or.inl e)
  have HW2:=hid_of hW2
  clear HH hr h1 hW2 HQ HS
  go_wp2_with fail
  rw [← HW2.out]
  rw [fpt1]
  refine wp_seq_k fun K hK=>?_
  obtain ⟨va,vg,vcap,hvv,-⟩:=own_slice HS2.out.own
  obtain ⟨s0,s1,s2,-⟩:=three_cells HS2.out.sn
  rw [hvv] at s1
  clear HW2
  dsimp only [sDrop,sFirst,bodyC,fB,Tryz.f30]
  go_wp2_with fail
  refine wp_fr58 rfl ?_
  exact HNm.out w1.heap.size _ W2 HB.out.1 HB.out.2.1 HB.out.2.2 rfl rfl rfl rfl HS2.out HD2.out HC2.out
 ·rw [HQ.out.2] at q2;cases q2
 ·rw [HQ.out.1] at q1;cases q1
theorem AlW.pre {p r:Nat} {L xs ys:List Vl} {n:Nat} (h:AlW p r L (xs++ys) n):AlW p r L xs n:=by
 refine ⟨fun y hy=>h.w y (List.mem_append_left _ hy),fun i hi=>?_,by have:=h.c;simp at this ⊢;omega,h.n⟩
 have:=h.z i (by simp;omega)
 rwa [List.take_append_of_le_length (by omega)] at this
theorem AlW.app {p r:Nat} {xs:List Vl}:∀ {L ys:List Vl} {n n':Nat},AlW p r L (xs++ys) n→n'≤4611686018400000000→AlW p r (L++xs) ys n':=by
 induction xs with
 | nil=>intro L ys n n' h hn;simp only [List.append_nil];exact ⟨h.w,h.z,h.c,hn⟩
 | cons x xs ih =>
  intro L ys n n' h hn
  have:=ih (L:=L++[x]) (n:=n') (AlW.tail (xs:=xs++ys) h hn) hn
  simpa using this
structure Fm where
 d:La.Ds
 x:Vl
 xs:List Vl
def fmV (fs:List Fm):List Vl:=fs.flatMap fun f=>f.x::f.xs
def FaL (p:Nat):List Vl→List Fm→List UInt8→Nat→Prop
 | _,[],T,k=>T=[]∧k=0
 | Y,f::fs,T,k=>T≠[]∧f.d.name.length≤4194304∧(∀ y,Y.getLast? =some y→y.d.name≠f.d.name)∧∃ T1 k1 k2,FaR p f.d (f.x::f.xs) T T1 k1∧T1.length < T.length∧FaL p (Y++f.x::f.xs) fs T1 k2∧k=1+k1+k2
theorem fa_step (u:World) (rb sb B p r:Nat) (hm:Mx u) (ht:Wi.Tab u) (hp1:1≤p) (hp2:p≤14) (f:Fm) (fs:List Fm) (v:Value) (R:List Rv) (T:List UInt8) (n k:Nat) (w:World) (hT:T.length≤4194304) (hN:n+k≤4611686018400000000)
  (hS:Ss u rb sb B p r v R T n w) (hA:AlW p r (R.map (·.1)) (fmV (f::fs)) n) (hL:FaL p (R.map (·.1)) (f::fs) T k) :
  Calls Tryz.prog 30 #[.pointer (some ⟨rb,0,none⟩),.pointer (some ⟨sb,0,none⟩)] w (fun e w'=>e=.returned (.tuple #[])∧∃ v' R' T1 k1 k2,R'.map (·.1)=f.x::f.xs∧Ss u rb sb B p r v' (R++R') T1 (n+k1) w'∧Chg (fun b=>b=rb∨b=sb∨B≤b) w w'∧AlW p r ((R++R').map (·.1)) (fmV fs) (n+k1)∧FaL p ((R++R').map (·.1)) fs T1 k2∧T1.length < T.length∧k=k1+k2):=by
 obtain ⟨-,hnm,hla,T1,k1,k2,l1,l2,l3,l4⟩:=hL
 have hA':AlW p r (R.map (·.1)) ((f.x::f.xs)++fmV fs) n:=by simpa [fmV] using hA
 refine Calls.mono (family_all u rb sb B p r f.d hm ht hp1 hp2 f.x f.xs v R T T1 n k1 w hT (by omega) hnm (by have:=hA.c;simp at this;omega) hS hA'.pre l1 (fun q hq=>hla q.1 (by simp [hq]))) ?_
 rintro e w' ⟨he,v',R',g1,g2,g3⟩
 refine ⟨he,v',R',T1,1+k1,k2,g1,by rw [← Nat.add_assoc];exact g2,g3,?_,?_,l2,l4⟩
 ·rw [List.map_append,g1]
  exact hA'.app (by omega)
 ·rw [List.map_append,g1]
  exact l3
def SnA (u:World) (P r:Nat) (Y:List Vl) (e:Ending) (w':World):Prop:=∃ v R,R.map (·.1)=Y∧e=.returned (.agg #[.int .i64 (P:Int),v,.int .u64 (r:Int)])∧w'.ownsRow u.heap.size 45 11 v R.length (flV R)∧(∀ q ∈ R,La.OwnL u.heap.size q.2.1 q.1.d.labels w'∧OwC u.heap.size q.2.2 q.1.cs w')∧Below u.heap.size u w'
theorem Ss.told {u:World} {rb sb B b:Nat} {p:Int} {r:Nat} {v:Value} {R:List Rv} {T:List UInt8} {n:Nat} {W W':World} (h:Ss u rb sb B p r v R T n W) (k:Chg (fun x=>x=b) W W') (hb:b < B) (hu:u.heap.size≤b):W'.ownsRow u.heap.size 45 11 v R.length (flV R)∧(∀ q ∈ R,La.OwnL u.heap.size q.2.1 q.1.d.labels W'∧OwC u.heap.size q.2.2 q.1.cs W')∧Below u.heap.size u W':=by
 have hus:=h.us
 have hsB:=h.sB
 refine ⟨own_monoG (k.row h.own (fun x hx e=>own_neG h.own hb (by rw [hx,e]))) (by omega),fun q hq=>⟨own_monoG (k.row (h.el q hq).1 (fun x hx e=>own_neG (h.el q hq).1 hb (by rw [hx,e]))) (by omega),own_monoG (k.row (h.el q hq).2 (fun x hx e=>own_neG (h.el q hq).2 hb (by rw [hx,e]))) (by omega)⟩,h.rd.st.trans (k.below h.rd.st.size (fun x e=>by omega))⟩
theorem snapshot_all (u:World) (rb:Nat) (T T1 T2:List UInt8) (n P r k0:Nat) (fs0:List Fm) (w:World) (h:Rd u rb w T n w) (hm:Mx u) (ht:Wi.Tab u) (hn:n+2+k0≤576460752303423488) (a:HdL T gnoT P T1) (hP1:1≤P) (hP2:P≤14) (b:HdL T1 refT r T2) (hT:T2.length≤4194304)
  (hA:AlW P r [] (fmV fs0) (n+2)) (hL:FaL P [] fs0 T2 k0) :
  Calls Tryz.prog 14 #[.pointer (some ⟨rb,0,none⟩)] w fun e w'=>SnA u P r (fmV fs0) e w':=by
 obtain ⟨W0,hW0⟩:∃ W0,W0=w.alloc (.cells #[.int .i64 0,.slice none 0 0,.int .u64 0] 25):=⟨_,rfl⟩
 have hb0:Below w.heap.size w W0:=by rw [hW0];exact bel1 _ _
 have hN0:W0.heap[w.heap.size]? =some (.cells #[.int .i64 0,.slice none 0 0,.int .u64 0] 25):=by rw [hW0];exact new_1 w _
 have h0:=(h.below hb0).re
 have hlt:rb < w.heap.size:=h.lt
 have hus:u.heap.size≤w.heap.size:=h.st.size
 have HN:La.HidC _ _ _ _ _:=a.next h0 hm (by omega)
 have HBh:Hid (∀ W,Rd u rb W0 T1 (n+1) W→Calls _ _ _ _ _):=fun W k=>a.behind k
 have HWh:Hid (∀ W,Rd u rb W0 T1 (n+1) W→Calls _ _ _ _ _):=fun W k=>a.whole k ht
 have HYes:Hid (∀ W,Calls Tryz.prog 29 #[.pointer (some ⟨rb,0,none⟩),.bool true] W fun e w'=>e=.returned (.tuple #[])∧w'=W):=fun W=>must_yes rb W
 have HN2:Hid (∀ W,Rd u rb W T1 (n+1) W→Calls _ _ _ _ _):=fun W k=>b.next k hm (by omega)
 have HBh2:Hid (∀ w0 W,Rd u rb w0 T2 (n+2) W→Calls _ _ _ _ _):=fun w0 W k=>b.behind k
 have HWh2:Hid (∀ w0 W,Rd u rb w0 T2 (n+2) W→Calls _ _ _ _ _):=fun w0 W k=>b.whole k ht
 have HFa:Hid (∀ (sb B:Nat) (f:Fm) (fs:List Fm) (v:Value) (R:List Rv) (T:List UInt8) (n k:Nat) (w:World),_):=fun sb B=>fa_step u rb sb B P r hm ht hP1 hP2
 have HAL:=hid_of (⟨hA,hL,hT,hn⟩:_∧_∧_∧_)
 have HW0:=hid_of hW0
 have HN0:=hid_of hN0
 have H0:=hid_of h0
 clear h hm ht hn a b hW0 hb0 h0 hN0 hT hA hL
 generalize (cut10 T).1=A at *
 generalize hS:Lib.trimPrefix A gnoT=S at *
 generalize (cut10 T1).1=A2 at *
 generalize hS2:Lib.trimPrefix A2 refT=S2 at *
 clear hS hS2
 go_enter Tryz.func14,Tryz.ntmps14
 go_upto_region 1 with fail
 rw [← HW0.out]
 clear HW0
 go_wp2_with fail
 refine Calls.mono HN.out ?_
 rintro e w1 ⟨rfl,hr1⟩
 have D1:La.HidC _ _ _ _ _:=HBh.out _ hr1
 have D2:La.HidC _ _ _ _ _:=HWh.out _ hr1
 have HR1:=hid_of hr1
 clear HN HBh HWh hr1
 go_wp2_with fail
 refine Calls.mono D1.out ?_
 rintro e w2 ⟨rfl,rfl⟩
 go_wp2_with fail
 refine Calls.mono D2.out ?_
 rintro e w3 ⟨rfl,hb3,hk⟩
 have hr3:=HR1.out.below hb3
 have D3:La.HidC _ _ _ _ _:=HN2.out _ hr3.re
 have HR3:=hid_of hr3
 clear HN2 HR1 hb3 hr3 D1 D2
 go_wp2_with fail
 rw [show decide ((P:Int)≤14)=true from decide_eq_true (by omega)]
 refine Calls.mono (HYes.out _) ?_
 rintro e w4 ⟨rfl,rfl⟩
 clear HYes
 go_wp2_with fail
 refine Calls.mono D3.out ?_
 rintro e w5 ⟨rfl,hr5⟩
 have hr5:=HR3.out.then hr5
 have D4:La.HidC _ _ _ _ _:=HBh2.out _ _ hr5
 have D5:La.HidC _ _ _ _ _:=HWh2.out _ _ hr5
 have HR5:=hid_of hr5
 clear HBh2 HWh2 hr5 D3 HR3
 go_wp2_with fail
 refine Calls.mono D4.out ?_
 rintro e w6 ⟨rfl,rfl⟩
 go_wp2_with fail
 refine Calls.mono D5.out ?_
 rintro e w7 ⟨rfl,hb7,hr64⟩
 have HR7:=hid_of (HR5.out.below hb7)
 clear HR5 hb7 D4 D5
 go_wp2_with fail
 obtain ⟨W8,hW8⟩:∃ W8,W8=w7.alloc (.cells #[.int .i64 (P:Int),.slice none 0 0,.int .u64 (r:Int)] 25):=⟨_,rfl⟩
 have hb8:Below w7.heap.size w7 W8:=by rw [hW8];exact bel1 _ _
 have hN8:W8.heap[w7.heap.size]? =some (.cells #[.int .i64 (P:Int),.slice none 0 0,.int .u64 (r:Int)] 25):=by rw [hW8];exact new_1 w7 _
 have hr8:=HR7.out.below hb8
 have hs8:W8.heap.size=w7.heap.size+1:=by rw [hW8];simp
 have hw7:w.heap.size < w7.heap.size:=by have:=HR7.out.ch.size;have:=(Array.getElem?_eq_some_iff.1 HN0.out).1;omega
 have hS8:Ss u rb w7.heap.size (w7.heap.size+1) P r (.slice none 0 0) [] T2 (n+2) W8:=⟨hr8.re,hN8,World.ownsRow_nil _ _ _ _,(fun q hq=>by cases hq),by omega,by omega,by omega,by omega,by omega,(fun q hq=>by cases hq),hr64⟩
 have HN9:=hid_of (hr8.ch.at_ HN0.out (show w.heap.size≠rb by omega))
 obtain ⟨c0,c1,-,-⟩:=hr8.cells
 rw [← hW8]
 have HW7:=hid_of hw7
 have HFb:Hid (∀ (f:Fm) (fs:List Fm) (v:Value) (R:List Rv) (T:List UInt8) (n k:Nat) (w:World),_):=HFa.out w7.heap.size (w7.heap.size+1)
 have HI0:Hid (Ss u rb w7.heap.size (w7.heap.size+1) P r (.slice none 0 0) [] T2 (n+2) W8∧AlW P r [] (fmV fs0) (n+2)∧FaL P [] fs0 T2 k0∧T2.length≤4194304):=⟨hS8,HAL.out.1,HAL.out.2.1,HAL.out.2.2.1⟩
 have HN:=hid_of HAL.out.2.2.2
 clear HFa HAL hW8 hb8 hN8 hr8 hs8 hS8 HR7 hw7 HN0 H0 c0 c1
 obtain ⟨WW,hWW⟩:∃ WW,WW=W8:=⟨_,rfl⟩
 have HC0:Hid (Chg (fun b=>b=rb∨b=w7.heap.size∨w7.heap.size+1≤b) WW W8):=by rw [hWW];exact Chg.refl _ _
 rw [← hWW] at HN9
 clear hWW
 generalize hsb:w7.heap.size=sb at *
 clear hsb
 go_loopw [] (fun W=>∃ (fs:List Fm) (R:List Rv) (v:Value) (T:List UInt8) (m k:Nat),Hid (fmV fs0=R.map (·.1)++fmV fs)∧Hid (m+k=n+2+k0)∧Hid (Ss u rb sb (sb+1) P r v R T m W∧AlW P r (R.map (·.1)) (fmV fs) m∧FaL P (R.map (·.1)) fs T k∧T.length≤4194304)∧Hid (Chg (fun b=>b=rb∨b=sb∨sb+1≤b) WW W)) (fun W=>mzR rb W)
 case atStart=>exact ⟨fs0,[],.slice none 0 0,T2,n+2,k0,rfl,rfl,HI0,HC0⟩
 case round =>
  clear HI0 HC0
  obtain ⟨fs,R,v,T,m,k,HX,HK,HI,HC⟩:=hrel
  obtain ⟨c0,c1,-,-⟩:=HI.out.1.rd.cells
  cases fs with
  | nil =>
   obtain ⟨l1,l2⟩:=HI.out.2.2.1
   subst l1
   obtain ⟨va,vg,vcap,hvv,-⟩:=own_slice HI.out.1.own
   obtain ⟨s0,s1,s2,-⟩:=three_cells HI.out.1.sn
   have hx9:=HC.out.at_ HN9.out (by have:=HW7.out;rintro (e | e | e) <;> omega)
   obtain ⟨x0,x1,x2,x3⟩:=three_cells hx9
   have f0:wr.frozen? ⟨w.heap.size,0,none⟩=false:=by simp [World.frozen?,hx9]
   have f2:wr.frozen? ⟨w.heap.size,2,none⟩=false:=by simp [World.frozen?,hx9]
   have HP:Hid ((((wr.setCell ⟨w.heap.size,0,none⟩ (.int .i64 (P:Int))).setCell ⟨w.heap.size,1,none⟩ v).setCell ⟨w.heap.size,2,none⟩ (.int .u64 (r:Int))).heap[w.heap.size]? =some (.cells #[.int .i64 (P:Int),v,.int .u64 (r:Int)] 25)):=by
    have i1:=Lib.heap_setCell_same (i:=0) hx9 (.int .i64 (P:Int))
    have i2:=Lib.heap_setCell_same (i:=1) i1 v
    have i3:=Lib.heap_setCell_same (i:=2) i2 (.int .u64 (r:Int))
    unfold Hid
    simpa using i3
   have HQ:=hid_of (HI.out.1.told (W':=((wr.setCell ⟨w.heap.size,0,none⟩ (.int .i64 (P:Int))).setCell ⟨w.heap.size,1,none⟩ v).setCell ⟨w.heap.size,2,none⟩ (.int .u64 (r:Int))) (b:=w.heap.size) (((chg_set wr ⟨w.heap.size,0,none⟩ _).trans (chg_set _ ⟨w.heap.size,1,none⟩ _) (fun x e=>Or.inl e)).trans (chg_set _ ⟨w.heap.size,2,none⟩ _) (fun x e=>Or.inl e)) (by have:=HW7.out;omega) hus)
   have HY:Hid (R.map (·.1)=fmV fs0):=by unfold Hid;rw [HX.out];simp [fmV]
   rw [hvv] at s1 HP HQ
   clear hx9 HC HI HN9 HW7 HX HK HN HFb l2 c1
   have c0:wr.cell? ⟨rb,0,none⟩=some (.string ⟨#[]⟩):=by simpa using c0
   go_wp2_with fail
   refine bodyPost_ret (results_cell_row (P:=Tryz.prog) rfl _ _ w.heap.size 25 _ (0,0) _ rfl HP.out Tryz.underlying25 rfl (by kernel_rfl)) rfl ?_
   exact ⟨_,R,HY.out,rfl,HQ.out.1,HQ.out.2.1,HQ.out.2.2⟩
  | cons f fs =>
   have l1:=HI.out.2.2.1.1
   have hb:(T == [])=false:=beq_eq_false_iff_ne.2 l1
   have hb2:(T != [])=true:=by simp [l1]
   have D2:La.HidC _ _ _ _ _:=HFb.out f fs v R T m k wr HI.out.2.2.2 (by have:=HK.out;have:=HN.out;omega) HI.out.1 HI.out.2.1 HI.out.2.2.1
   clear HFb l1
   go_wp2_with fail
   refine Calls.mono D2.out ?_
   rintro e w4 ⟨rfl,v',R',T',k1,k2,g1,g2,g3,g4,g5,g6,g7⟩
   have HG:=hid_of (⟨g1,g2,g3,g4,g5,g6,g7⟩:_∧_∧_∧_∧_∧_∧_)
   clear D2 g1 g2 g3 g4 g5 g6 g7
   go_wp2_with fail
   obtain ⟨g1,g2,g3,g4,g5,g6,g7⟩:=HG.out
   refine ⟨⟨fs,R++R',v',T',m+k1,k2,?_,?_,⟨g2,g4,g5,by have:=HI.out.2.2.2;omega⟩,HC.out.trans g3 (fun b e=>Or.inl e)⟩,?_⟩
   ·unfold Hid
    rw [HX.out,List.map_append,g1]
    simp [fmV]
   ·have:=HK.out
    unfold Hid
    omega
   ·rw [g2.rd.mz,HI.out.1.rd.mz]
    exact g6
def PaA (w:World) (P r:Nat) (Y:List Vl) (e:Ending) (w':World):Prop:=∃ v R,R.map (·.1)=Y∧e=.returned (.tuple #[.agg #[.int .i64 (P:Int),v,.int .u64 (r:Int)],.int .i64 0,.int .i64 0])∧w'.ownsRow w.heap.size 45 11 v R.length (flV R)∧(∀ q ∈ R,La.OwnL w.heap.size q.2.1 q.1.d.labels w'∧OwC w.heap.size q.2.2 q.1.cs w')∧Below w.heap.size w w'
theorem parse_all (T T1 T2:List UInt8) (g cap P r k0:Nat) (fs0:List Fm) (w:World) (hm:Mx w) (ht:Wi.Tab w) (hn:k0≤576460752303423000) (a:HdL T gnoT P T1) (hP1:1≤P) (hP2:P≤14) (b:HdL T1 refT r T2) (hT:T2.length≤4194304)
  (hA:AlW P r [] (fmV fs0) 2) (hL:FaL P [] fs0 T2 k0) (hcv:∀ W,Below w.heap.size w W→(convert 30 9 (.slice (some ⟨g,0,none⟩) T.length cap)).run Tryz.prog W=.ok (.string ⟨T.toArray⟩) W) :
  Calls Tryz.prog 7 #[.slice (some ⟨g,0,none⟩) T.length cap] w fun e w'=>PaA w P r (fmV fs0) e w':=by
 have hmf:∀ (fn:Fn) (first cap:Array Value) (w:World),(Instr.makeFunc fn first cap).run Tryz.prog w=.ok (.func fn first cap) w:=fun _ _ _ _=>rfl
 obtain ⟨W1,hW1⟩:∃ W1,W1=((w.alloc (.cells #[.int .i64 0,.slice none 0 0,.int .u64 0] 25)).alloc (.cells #[.int .i64 0] 27)).alloc (.cells #[.int .i64 0] 3):=⟨_,rfl⟩
 have hR1:Rs W1 w.heap.size (.int .i64 0) (.slice none 0 0) (.int .u64 0) (.int .i64 0) (.int .i64 0):=by rw [hW1];exact rs_new w
 have hb1:Below w.heap.size w W1:=by rw [hW1];exact bt (bt (bel1 _ _) (bel1 _ _)) (bel1 _ _)
 have hcv1:=hcv W1 hb1
 obtain ⟨W2,hW2⟩:∃ W2,W2=W1.alloc (.cells #[.string ⟨T.toArray⟩,.int .i64 0] 56):=⟨_,rfl⟩
 have hb2:Below W1.heap.size W1 W2:=by rw [hW2];exact bel1 _ _
 have hN2:W2.heap[W1.heap.size]? =some (.cells #[.string ⟨T.toArray⟩,.int .i64 0] 56):=by rw [hW2];exact new_1 W1 _
 have hr2:Rd W1 W1.heap.size W2 T 0 W2:=⟨hN2,Chg.refl _ _,Nat.le_refl _,hb2⟩
 have hsz:W1.heap.size=w.heap.size+3:=by rw [hW1];simp
 have HS:La.HidC Tryz.prog 14 #[.pointer (some ⟨w.heap.size+3,0,none⟩)] W2 (fun e w'=>SnA W1 P r (fmV fs0) e w'):=by
  rw [← hsz]
  exact snapshot_all W1 W1.heap.size T T1 T2 0 P r k0 fs0 W2 hr2 (hm.below hb1) (ht.below hb1) (by omega) a hP1 hP2 b hT (by simpa using hA) hL
 have hlen:(T.length:Int)≤4194304:=by have:=a.len;omega
 have HW1:=hid_of hW1
 have HW2:=hid_of hW2
 have HR1:=hid_of hR1
 have HB1:=hid_of hb1
 clear hcv hm ht hn a b hT hA hL hW1 hW2 hR1 hb1 hb2 hN2 hr2
 go_enter_defers Tryz.func7,Tryz.ntmps7
 go_upto_region 1 with fail
 rw [← HW1.out]
 go_upto_region 5 with fail
 rw [← HW2.out]
 clear hcv1 HW1 HW2
 have HSz:=hid_of hsz
 clear hsz
 go_wp2_with fail
 refine Calls.mono HS.out ?_
 rintro e w3 ⟨v3,R3,hY,rfl,ho3,he3,hb3⟩
 obtain ⟨va,vg,c3,hvv,-⟩:=own_slice ho3
 subst hvv
 have hR3:=HR1.out.below hb3
 obtain ⟨s0,s1,s2,f1⟩:=three_cells hR3.s
 have f0:w3.frozen? ⟨w.heap.size,0,none⟩=false:=by simp [World.frozen?,hR3.s]
 have f2:w3.frozen? ⟨w.heap.size,2,none⟩=false:=by simp [World.frozen?,hR3.s]
 have e0:w3.cell? ⟨w.heap.size+1,0,none⟩=some (.int .i64 0):=by simp [World.cell?,hR3.e]
 have fe:w3.frozen? ⟨w.heap.size+1,0,none⟩=false:=by simp [World.frozen?,hR3.e]
 have l0:w3.cell? ⟨w.heap.size+1+1,0,none⟩=some (.int .i64 0):=by simp [World.cell?,hR3.l]
 have fl0:w3.frozen? ⟨w.heap.size+1+1,0,none⟩=false:=by simp [World.frozen?,hR3.l]
 have HQ:Hid (Rs (((((w3.setCell ⟨w.heap.size,0,none⟩ (.int .i64 (P:Int))).setCell ⟨w.heap.size,1,none⟩ (.slice va R3.length c3)).setCell ⟨w.heap.size,2,none⟩ (.int .u64 (r:Int))).setCell ⟨w.heap.size+1,0,none⟩ (.int .i64 0)).setCell ⟨w.heap.size+2,0,none⟩ (.int .i64 0)) w.heap.size (.int .i64 (P:Int)) (.slice va R3.length c3) (.int .u64 (r:Int)) (.int .i64 0) (.int .i64 0)∧(((((w3.setCell ⟨w.heap.size,0,none⟩ (.int .i64 (P:Int))).setCell ⟨w.heap.size,1,none⟩ (.slice va R3.length c3)).setCell ⟨w.heap.size,2,none⟩ (.int .u64 (r:Int))).setCell ⟨w.heap.size+1,0,none⟩ (.int .i64 0)).setCell ⟨w.heap.size+2,0,none⟩ (.int .i64 0)).ownsRow w.heap.size 45 11 (.slice va R3.length c3) R3.length (flV R3)∧(∀ q ∈ R3,La.OwnL w.heap.size q.2.1 q.1.d.labels (((((w3.setCell ⟨w.heap.size,0,none⟩ (.int .i64 (P:Int))).setCell ⟨w.heap.size,1,none⟩ (.slice va R3.length c3)).setCell ⟨w.heap.size,2,none⟩ (.int .u64 (r:Int))).setCell ⟨w.heap.size+1,0,none⟩ (.int .i64 0)).setCell ⟨w.heap.size+2,0,none⟩ (.int .i64 0))∧OwC w.heap.size q.2.2 q.1.cs (((((w3.setCell ⟨w.heap.size,0,none⟩ (.int .i64 (P:Int))).setCell ⟨w.heap.size,1,none⟩ (.slice va R3.length c3)).setCell ⟨w.heap.size,2,none⟩ (.int .u64 (r:Int))).setCell ⟨w.heap.size+1,0,none⟩ (.int .i64 0)).setCell ⟨w.heap.size+2,0,none⟩ (.int .i64 0)))∧Below w.heap.size w (((((w3.setCell ⟨w.heap.size,0,none⟩ (.int .i64 (P:Int))).setCell ⟨w.heap.size,1,none⟩ (.slice va R3.length c3)).setCell ⟨w.heap.size,2,none⟩ (.int .u64 (r:Int))).setCell ⟨w.heap.size+1,0,none⟩ (.int .i64 0)).setCell ⟨w.heap.size+2,0,none⟩ (.int .i64 0))):=⟨hR3.put _ _ _ _ _,own_monoG (own_put5 ho3 (by have:=HSz.out;omega) _ _ _ _ _) (by have:=HSz.out;omega),fun q hq=>⟨own_monoG (own_put5 (he3 q hq).1 (by have:=HSz.out;omega) _ _ _ _ _) (by have:=HSz.out;omega),own_monoG (own_put5 (he3 q hq).2 (by have:=HSz.out;omega) _ _ _ _ _) (by have:=HSz.out;omega)⟩,bel_put5 (HB1.out.trans (hb3.mono HB1.out.size)) _ _ _ _ _⟩
 clear HS hb3 ho3 he3 hR3 HR1 HB1 HSz
 go_wp2_with fail
 change bodyPostD _ _ _ _ _ (((((w3.setCell ⟨w.heap.size,0,none⟩ (.int .i64 (P:Int))).setCell ⟨w.heap.size,1,none⟩ (.slice va R3.length c3)).setCell ⟨w.heap.size,2,none⟩ (.int .u64 (r:Int))).setCell ⟨w.heap.size+1,0,none⟩ (.int .i64 0)).setCell ⟨w.heap.size+2,0,none⟩ (.int .i64 0))
 obtain ⟨q1,q2,q4,q3⟩:=HQ.out
 clear HQ s0 s1 s2 f0 f1 f2 e0 fe l0 fl0
 generalize (((((w3.setCell ⟨w.heap.size,0,none⟩ (.int .i64 (P:Int))).setCell ⟨w.heap.size,1,none⟩ (.slice va R3.length c3)).setCell ⟨w.heap.size,2,none⟩ (.int .u64 (r:Int))).setCell ⟨w.heap.size+1,0,none⟩ (.int .i64 0)).setCell ⟨w.heap.size+2,0,none⟩ (.int .i64 0))=W5 at *
 refine leaves_cons (f:=13) (args:=cap3 w.heap.size) (by simp) (by simp [go_sem]) ?_
 refine (catch_idle w.heap.size W5).mono ?_
 rintro e u' w4 ⟨rfl,rfl,hb4⟩
 have hR4:=q1.below hb4
 obtain ⟨s0,s1,s2,-⟩:=three_cells hR4.s
 have e0:w4.cell? ⟨w.heap.size+1,0,none⟩=some (.int .i64 0):=by simp [World.cell?,hR4.e]
 have l0:w4.cell? ⟨w.heap.size+1+1,0,none⟩=some (.int .i64 0):=by simp [World.cell?,hR4.l]
 have hQ:PaA w P r (fmV fs0) (.returned (.tuple #[.agg #[.int .i64 (P:Int),.slice va R3.length c3,.int .u64 (r:Int)],.int .i64 0,.int .i64 0])) w4:=⟨_,R3,hY,rfl,own_belG q2 hb4,fun q hq=>⟨own_belG (q4 q hq).1 hb4,own_belG (q4 q hq).2 hb4⟩,q3.trans (hb4.mono q3.size)⟩
 show ∃ v,(results Tryz.f7 _).run Tryz.prog w4=.ok v w4∧_
 refine ⟨.tuple #[.agg #[.int .i64 (P:Int),.slice va R3.length c3,.int .u64 (r:Int)],.int .i64 0,.int .i64 0],?_,hQ⟩
 clear hQ hR4 hb4 q1 q2 q3 q4
 simp [results,Tryz.results7,go_sem,s0,s1,s2,e0,l0]
theorem index_at {c:UInt8}:∀ {A T:List UInt8},(∀ b ∈ A,b≠c)→Lib.index (A++c::T) [c]=(A.length:Int)
 | [],T,_=>by simp [Lib.index,List.isPrefixOf]
 | a::A,T,h=>by
  have ih:=index_at (A:=A) (T:=T) (fun b hb=>h b (List.mem_cons_of_mem _ hb))
  have hn:(c == a)=false:=by
   rw [beq_eq_false_iff_ne]
   exact fun e=>h a List.mem_cons_self e.symm
  have h1:(((A.length:Int)) == -1)=false:=by rw [beq_eq_false_iff_ne];omega
  simp [Lib.index,List.isPrefixOf,hn,ih,h1]
theorem cut_by {c:UInt8} {A T:List UInt8} (h:∀ b ∈ A,b≠c):Lib.cut (A++c::T) [c]=(A,T,true):=by
 unfold Lib.cut
 rw [index_at h,if_pos (by omega)]
 simp
theorem pre_yes (P L:List UInt8):Lib.hasPrefix (P++L) P=true:=by
 unfold Lib.hasPrefix
 rw [List.isPrefixOf_iff_prefix]
 exact ⟨L,rfl⟩
theorem pre_off (P L:List UInt8):Lib.trimPrefix (P++L) P=L:=by
 unfold Lib.trimPrefix
 rw [if_pos (pre_yes P L)]
 simp
theorem suf_yes (L P:List UInt8):Lib.hasSuffix (L++P) P=true:=by
 unfold Lib.hasSuffix
 rw [List.isSuffixOf_iff_suffix]
 exact ⟨L,rfl⟩
theorem suf_off (L P:List UInt8):Lib.trimSuffix (L++P) P=L:=by
 unfold Lib.trimSuffix
 rw [if_pos (suf_yes L P)]
 simp
theorem occ_byte (s:List UInt8) (c:UInt8) (j:Nat):Lib.occAt s [c] j=true ↔ s[j]? =some c:=by
 unfold Lib.occAt
 rw [List.isPrefixOf_iff_prefix]
 constructor
 ·rintro ⟨t,ht⟩
  have:=congrArg (fun l=>l[0]?) ht
  simpa using this.symm
 ·intro h
  refine ⟨s.drop (j+1),?_⟩
  obtain ⟨hj,e⟩:=List.getElem?_eq_some_iff.1 h
  rw [List.drop_eq_getElem_cons hj,e]
  rfl
theorem spl_at {A N:List UInt8} (h:∀ b ∈ N,b≠32):spl (A++32::N)=some (A,N):=by
 have hi:Lib.lastIndex (A++32::N) [32]=(A.length:Int):=by
  unfold Lib.lastIndex
  rw [if_pos (by simp;omega)]
  have hl:(A++32::N).length - [(32:UInt8)].length+1=A.length+N.length+1:=by simp
  rw [hl]
  have hat:Lib.occAt (A++32::N) [32] A.length=true:=by rw [occ_byte];simp
  rcases Lib.lastOcc_spec (A++32::N) [32] (A.length+N.length+1) with ⟨-,k⟩ | ⟨i,i1,i2,i3,i4⟩
  ·rw [k A.length (by omega)] at hat;cases hat
  ·rw [i2]
   rcases Nat.lt_trichotomy i A.length with q | q | q
   ·rw [i4 A.length q (by omega)] at hat;cases hat
   ·rw [q]
   ·rw [occ_byte,List.getElem?_append_right (by omega)] at i3
    obtain ⟨m,hm⟩:∃ m,i - A.length=m+1:=⟨i - A.length - 1,by omega⟩
    rw [hm,List.getElem?_cons_succ] at i3
    exact absurd rfl (h 32 (List.mem_of_getElem? i3))
 unfold spl
 rw [hi,if_pos (by omega)]
 have e1:((A.length:Int)).toNat=A.length:=by omega
 rw [e1,List.take_left,List.drop_append]
 simp
theorem ty_line (name R:List UInt8):tyR name ([35,32,84,89,80,69,32]++name++[32]++R)=kdR R:=by
 unfold tyR
 rw [if_pos (pre_yes _ _),pre_off]
theorem he_line {name E h:List UInt8} (hn:La.nameB name=true) (hb:∀ b ∈ name,b≠32) (hu:La.unL E=some h):heR ([35,32,72,69,76,80,32]++(name++32::E))=some (name,h):=by
 unfold heR
 rw [if_pos (pre_yes _ _),pre_off,cut_by hb,if_pos ⟨rfl,hn⟩,hu]
 rfl
theorem hd_line {G N T:List UInt8} {k:Nat} (hG:∀ b ∈ G,b≠10) (hN:∀ b ∈ N,b≠10) (hw:whoR N=some k) (hl:(G++N++10::T).length≤4194304):HdL (G++N++10::T) G k T:=by
 have hc:=cut_by (c:=10) (A:=G++N) (T:=T) (fun b hb=>by
  rcases List.mem_append.1 hb with q | q
  ·exact hG b q
  ·exact hN b q)
 have hc:cut10 (G++N++10::T)=(G++N,T,true):=hc
 refine ⟨?_,?_,?_,?_,hl⟩
 ·rw [hc]
 ·rw [hc];exact pre_yes _ _
 ·rw [hc];show whoR (Lib.trimPrefix (G++N) G)=some k;rw [pre_off];exact hw
 ·rw [hc]
theorem last_at {X Q Y:List UInt8} (hY:∀ b ∈ Y,b≠34):Lib.lastIndex (X++((Q++[34])++Y)) (Q++[34])=(X.length:Int):=by
 unfold Lib.lastIndex
 rw [if_pos (by simp;omega)]
 have hl:(X++((Q++[34])++Y)).length - (Q++[34]).length+1=X.length+Y.length+1:=by simp;omega
 rw [hl]
 have hat:Lib.occAt (X++((Q++[34])++Y)) (Q++[34]) X.length=true:=by
  unfold Lib.occAt
  rw [List.drop_left,List.isPrefixOf_iff_prefix]
  exact ⟨Y,rfl⟩
 rcases Lib.lastOcc_spec (X++((Q++[34])++Y)) (Q++[34]) (X.length+Y.length+1) with ⟨-,k⟩ | ⟨i,i1,i2,i3,i4⟩
 ·rw [k X.length (by omega)] at hat;cases hat
 ·rw [i2]
  rcases Nat.lt_trichotomy i X.length with q | q | q
  ·rw [i4 X.length q (by omega)] at hat;cases hat
  ·rw [q]
  ·unfold Lib.occAt at i3
   rw [List.isPrefixOf_iff_prefix] at i3
   obtain ⟨t,ht⟩:=i3
   have e1:=congrArg (fun l=>l[Q.length]?) ht
   simp only [List.getElem?_drop] at e1
   rw [List.getElem?_append_left (by simp),List.getElem?_append_right (by omega)] at e1
   rw [List.getElem?_append_right (by omega),List.getElem?_append_right (by simp;omega)] at e1
   simp only [Nat.sub_self,List.getElem?_cons_zero] at e1
   exact absurd rfl (hY 34 (List.mem_of_getElem? e1.symm))
theorem mor_line {name x y z:List UInt8} (hy:∀ b ∈ y,b≠34) (hz:∀ b ∈ z,b≠32):morR name ((x++((name++[61,34])++y))++[34,125]++32::z)=some (x,y,z):=by
 have hl:=last_at (X:=x) (Q:=name++[61]) (Y:=y) hy
 have e:name++[61]++[34]=name++[(61:UInt8),34]:=by simp
 rw [e] at hl
 unfold morR
 rw [spl_at hz]
 show (if Lib.hasSuffix _ _=true then _ else _)=_
 simp only [suf_yes,suf_off,if_true,hl]
 rw [if_pos (by omega)]
 have e1:((x.length:Int)).toNat=x.length:=by omega
 rw [e1,List.take_left]
 have e2:(x++((name++[61,34])++y)).drop (x.length+(name.length+2))=y:=by
  have:x.length+(name.length+2)=(x++(name++[61,34])).length:=by simp
  rw [this,show x++((name++[61,34])++y)=(x++(name++[61,34]))++y by simp only [List.append_assoc],List.drop_left]
 rw [e2]
theorem chk1_none {p:Int} {q:Option Vl} {x:Vl} (h:chk1 p q x=0):chk1 p none x=0:=by
 unfold chk1 at h ⊢
 split at h
 ·rename_i k;exact absurd h k
 ·rename_i k
  rw [if_neg k]
  split at h
  ·cases h
  ·rename_i k2
   rw [if_neg k2]
theorem chkV_pre (p:Int):∀ (A B:List Vl) (q:Option Vl) (i:Nat),(chkV p q (A++B) i).1=0→(chkV p q A i).1=0
 | [],_,_,_,_=>rfl
 | x::A,B,q,i,h=>by
  simp only [List.cons_append,chkV] at h ⊢
  split at h
  ·rename_i k;exact absurd h k
  ·rename_i k
   rw [if_neg k]
   exact chkV_pre p A B _ _ h
theorem chkV_none (p:Int):∀ (B:List Vl) (q:Option Vl) (i j:Nat),(chkV p q B i).1=0→(chkV p none B j).1=0
 | [],_,_,_,_=>rfl
 | x::B,q,i,j,h=>by
  simp only [chkV] at h ⊢
  split at h
  ·rename_i k;exact absurd h k
  ·rename_i k
   have k0:chk1 p q x=0:=Decidable.not_not.1 k
   rw [if_neg (fun e=>e (chk1_none k0))]
   exact chkV_at p B (some x) (i+1) (j+1) h
where chkV_at (p:Int):∀ (B:List Vl) (q:Option Vl) (i j:Nat),(chkV p q B i).1=0→(chkV p q B j).1=0
 | [],_,_,_,_=>rfl
 | x::B,q,i,j,h=>by
  simp only [chkV] at h ⊢
  split at h
  ·rename_i k;exact absurd h k
  ·rename_i k
   rw [if_neg k]
   exact chkV_at p B (some x) (i+1) (j+1) h
theorem chkV_suf (p:Int):∀ (A B:List Vl) (q:Option Vl) (i:Nat),(chkV p q (A++B) i).1=0→(chkV p none B 0).1=0
 | [],B,q,i,h=>chkV_none p B q i 0 h
 | x::A,B,q,i,h=>by
  simp only [List.cons_append,chkV] at h
  split at h
  ·rename_i k;exact absurd h k
  ·exact chkV_suf p A B _ _ h
theorem lst_begin {p r:Nat} {L:List Vl} (h:(chkS ⟨p,L,r⟩).1=0) (m:Nat):lstE ⟨p,L.take m,r⟩=0:=by
 unfold chkS at h
 split at h
 ·cases h
 ·rename_i k1
  split at h
  ·cases h
  ·rename_i k2
   have h1:=chkV_pre p (L.take m) (L.drop m) none 0 (by rw [List.take_append_drop];exact h)
   have h2:=chkV_suf p ((L.take m).take ((L.take m).length - 2)) ((L.take m).drop ((L.take m).length - 2)) none 0 (by rw [List.take_append_drop];exact h1)
   unfold lstE chkS
   rw [if_neg k1,if_neg (by simp only [List.length_drop,List.length_take] at k2 ⊢;omega)]
   exact h2
theorem alw_all {p r:Nat} {L:List Vl} (h:(chkS ⟨p,L,r⟩).1=0) (hw:∀ x ∈ L,VaW x∧VW x∧x.cs.length≤1048576):AlW p r [] L 2:=by
 refine ⟨hw,fun i _=>lst_begin h (i+1),?_,by omega⟩
 unfold chkS at h
 split at h
 ·cases h
 ·split at h
  ·cases h
  ·rename_i k2
   simp only [List.length_nil]
   show 0+L.length≤256
   have k2:¬ 256 < L.length:=k2
   omega
theorem cut10_by {A T:List UInt8} (h:∀ b ∈ A,b≠10):cut10 (A++10::T)=(A,T,true):=cut_by h
theorem cnt_line {name A N:List UInt8} {L:List La.Lb} {t:Int} (hN:∀ b ∈ N,b≠32) (hl:labR name A=some L) (hw:widR N=some t):cntR name (A++32::N)=some (L,t):=by
 unfold cntR
 rw [spl_at hN]
 simp [hl,hw]
theorem wid_itoa {n:Int} (h:Wi.readF (Lib.itoa n)=n) (hl:(Lib.itoa n).length≤40):widR (Lib.itoa n)=some n:=by
 unfold widR
 rw [h,if_pos ⟨hl,rfl⟩]
theorem va_cnt {p:Nat} {x:Vl} {A N T':List UInt8} (h1:x.d.kind=1) (hx:x=⟨x.d,x.t,[],0,0,0,0⟩) (hA:∀ b ∈ A,b≠10) (hN:∀ b ∈ N,b≠32) (hN2:∀ b ∈ N,b≠10) (hl:labR x.d.name A=some x.d.labels) (hw:widR N=some x.t):VaR p x ((A++32::N)++10::T') T' 1:=by
 have hc:cut10 ((A++32::N)++10::T')=(A++32::N,T',true):=cut10_by (fun b hb=>by
  rcases List.mem_append.1 hb with q | q
  ·exact hA b q
  ·rcases List.mem_cons.1 q with q | q
   ·rw [q];decide
   ·exact hN2 b q)
 refine Or.inl ⟨h1,?_,?_,?_,hx,rfl⟩
 ·rw [hc]
 ·rw [hc];exact cnt_line hN hl hw
 ·rw [hc]
theorem mo_by {name x y z T:List UInt8} (hx:∀ b ∈ x++((name++[61,34])++y),b≠10) (hy:∀ b ∈ y,b≠34) (hz:∀ b ∈ z,b≠32) (hz2:∀ b ∈ z,b≠10) :
  (cut10 (((x++((name++[61,34])++y))++[34,125]++32::z)++10::T)).2.2=true∧morR name (cut10 (((x++((name++[61,34])++y))++[34,125]++32::z)++10::T)).1=some (x,y,z)∧(cut10 (((x++((name++[61,34])++y))++[34,125]++32::z)++10::T)).2.1=T:=by
 have hc:cut10 (((x++((name++[61,34])++y))++[34,125]++32::z)++10::T)=((x++((name++[61,34])++y))++[34,125]++32::z,T,true):=cut10_by (fun b hb=>by
  rcases List.mem_append.1 hb with q | q
  ·rcases List.mem_append.1 q with q | q
   ·exact hx b q
   ·simp only [List.mem_cons,List.not_mem_nil,or_false] at q
    rcases q with q | q <;> rw [q] <;> decide
  ·rcases List.mem_cons.1 q with q | q
   ·rw [q];decide
   ·exact hz2 b q)
 rw [hc]
 exact ⟨rfl,mor_line hy hz,rfl⟩
theorem spl_by {A N T:List UInt8} (hA:∀ b ∈ A,b≠10) (hN:∀ b ∈ N,b≠32) (hN2:∀ b ∈ N,b≠10):(cut10 ((A++32::N)++10::T)).2.2=true∧spl (cut10 ((A++32::N)++10::T)).1=some (A,N)∧(cut10 ((A++32::N)++10::T)).2.1=T:=by
 have hc:cut10 ((A++32::N)++10::T)=(A++32::N,T,true):=cut10_by (fun b hb=>by
  rcases List.mem_append.1 hb with q | q
  ·exact hA b q
  ·rcases List.mem_cons.1 q with q | q
   ·rw [q];decide
   ·exact hN2 b q)
 rw [hc]
 exact ⟨rfl,spl_at hN,rfl⟩
theorem who_wid {S:List UInt8} {k:Nat} (h:widR S=some (k:Int)) (hk:k < 18446744073709551616):whoR S=some k:=by
 unfold whoR
 rw [h]
 have h1:hiOf (k:Int)=0:=by unfold hiOf;omega
 have h2:(loOf (k:Int)).toNat=k:=by unfold loOf;omega
 show (if hiOf (k:Int)=0 then some (loOf (k:Int)).toNat else none)=some k
 rw [if_pos h1,h2]
theorem fa_by {p:Nat} {d:La.Ds} {xs:List Vl} {E K T1 T':List UInt8} {k:Nat} (hn:La.nameB d.name=true) (hb:∀ b ∈ d.name,b≠32) (hb2:∀ b ∈ d.name,b≠10) (hu:La.unL E=some d.help) (hE:∀ b ∈ E,b≠10) (hK:kdR K=d.kind) (hK0:d.kind≠0) (hK2:∀ b ∈ K,b≠10) (hL:SeL p d xs T1 T' k) :
  FaR p d xs (([35,32,72,69,76,80,32]++(d.name++32::E))++10::(([35,32,84,89,80,69,32]++d.name++[32]++K)++10::T1)) T' (k+1):=by
 have hc:cut10 (([35,32,72,69,76,80,32]++(d.name++32::E))++10::(([35,32,84,89,80,69,32]++d.name++[32]++K)++10::T1))=([35,32,72,69,76,80,32]++(d.name++32::E),([35,32,84,89,80,69,32]++d.name++[32]++K)++10::T1,true):=cut10_by (fun b hb'=>by
  rcases List.mem_append.1 hb' with q | q
  ·simp only [List.mem_cons,List.not_mem_nil,or_false] at q
   rcases q with q | q | q | q | q | q | q <;> rw [q] <;> decide
  ·rcases List.mem_append.1 q with q | q
   ·exact hb2 b q
   ·rcases List.mem_cons.1 q with q | q
    ·rw [q];decide
    ·exact hE b q)
 have hc2:cut10 (([35,32,84,89,80,69,32]++d.name++[32]++K)++10::T1)=([35,32,84,89,80,69,32]++d.name++[32]++K,T1,true):=cut10_by (fun b hb'=>by
  rcases List.mem_append.1 hb' with q | q
  ·rcases List.mem_append.1 q with q | q
   ·rcases List.mem_append.1 q with q | q
    ·simp only [List.mem_cons,List.not_mem_nil,or_false] at q
     rcases q with q | q | q | q | q | q | q <;> rw [q] <;> decide
    ·exact hb2 b q
   ·simp only [List.mem_cons,List.not_mem_nil,or_false] at q
    rw [q];decide
  ·exact hK2 b q)
 refine ⟨?_,?_,?_,?_,hK0,by omega,?_⟩
 ·rw [hc]
 ·rw [hc];exact he_line hn hb hu
 ·rw [hc];show (cut10 _).2.2=true;rw [hc2]
 ·rw [hc];show tyR d.name (cut10 _).1=d.kind;rw [hc2,← hK];exact ty_line _ _
 ·rw [hc];show SeL p d xs (cut10 _).2.1 T' (k+1 - 1);rw [hc2];exact hL
abbrev infT:List UInt8:=[43,73,110,102]
abbrev bkLn (A y z:List UInt8):List UInt8:=(A++(([108,101]++[61,34])++y))++[34,125]++32::z
def bkTx (A:List UInt8) (Y:Nat→List UInt8) (Z:Nat→List UInt8):Nat→List Cn→List UInt8→List UInt8
 | a,[],T=>bkLn A infT (Z a)++10::T
 | a,c::C,T=>bkLn A (Y c.1.toNat) (Z (a+c.2))++10::bkTx A Y Z (a+c.2) C T
structure TxW (p:Nat) (Y Z:Nat→List UInt8):Prop where
 y:∀ i,i < (64 - p)*2 ^ p→whoR (Y i)=some (hiV p i)∧Y i≠infT∧∀ b ∈ Y i,b≠34∧b≠10
 z:∀ m,m < 18446744073709551616→whoR (Z m)=some m∧∀ b ∈ Z m,b≠32∧b≠10
theorem mol_by {A y z T:List UInt8} (hA:∀ b ∈ A,b≠10) (hy:∀ b ∈ y,b≠34∧b≠10) (hz:∀ b ∈ z,b≠32∧b≠10):MoL (bkLn A y z++10::T) A y z T :=
 mo_by (name:=[108,101]) (fun b hb=>by
  rcases List.mem_append.1 hb with q | q
  ·exact hA b q
  ·rcases List.mem_append.1 q with q | q
   ·simp only [List.cons_append,List.nil_append,List.mem_cons,List.not_mem_nil,or_false] at q
    rcases q with q | q | q | q <;> rw [q] <;> decide
   ·exact (hy b q).2) (fun b hb=>(hy b hb).1) (fun b hb=>(hz b hb).1) (fun b hb=>(hz b hb).2)
theorem lp_by {p:Nat} {A:List UInt8} {Y Z:Nat→List UInt8} (hA:∀ b ∈ A,b≠10) (hW:TxW p Y Z) (T:List UInt8):∀ (C:List Cn) (a:Nat),(∀ c ∈ C,∃ i:Nat,c.1=(i:Int)∧i < (64 - p)*2 ^ p∧0 < c.2)→a+(C.map (·.2)).sum < 18446744073709551616→∃ y z T1,MoL (bkTx A Y Z a C T) A y z T1∧LpR p A a C y z T1 T
 | [],a,_,hs=>by
  have hz:=hW.z a (by simpa using hs)
  exact ⟨infT,Z a,T,mol_by hA (by decide) hz.2,rfl,hz.1,rfl⟩
 | c::C,a,hC,hs=>by
  simp only [List.map_cons,List.sum_cons] at hs
  obtain ⟨i,i1,i2,i3⟩:=hC c List.mem_cons_self
  obtain ⟨y',z',T1,g1,g2⟩:=lp_by hA hW T C (a+c.2) (fun x hx=>hC x (List.mem_cons_of_mem _ hx)) (by omega)
  have hy:=hW.y i i2
  have hz:=hW.z (a+c.2) (by omega)
  have ei:c.1.toNat=i:=by omega
  refine ⟨Y i,Z (a+c.2),bkTx A Y Z (a+c.2) C T,?_,hy.2.1,⟨i,i1,i2,hy.1⟩,hz.1,i3,by omega,y',z',T1,g1,g2⟩
  show MoL (bkLn A (Y c.1.toNat) (Z (a+c.2))++10::bkTx A Y Z (a+c.2) C T) A (Y i) (Z (a+c.2)) (bkTx A Y Z (a+c.2) C T)
  rw [ei]
  exact mol_by hA hy.2.2 hz.2
theorem va_hist {p:Nat} {x:Vl} {Y Z:Nat→List UInt8} {S b1 T':List UInt8} (h2:x.d.kind=2) (hW:TxW p Y Z) (hS:othR x.d.name S=some x.d.labels) (hA:∀ b ∈ x.d.name++bkB++S,b≠10)
  (hC:∀ c ∈ x.cs,∃ i:Nat,c.1=(i:Int)∧i < (64 - p)*2 ^ p∧0 < c.2) (hn:x.n=(x.cs.map (·.2)).sum) (hn2:x.n < 18446744073709551616) (hsm:x.sum=0∧x.mn=0∧x.mx=0) (hp:x.cs.Pairwise (fun a b=>a.1 < b.1))
  (hb:widR b1=some x.t) (hb2:∀ b ∈ b1,b≠32∧b≠10) (hP1:∀ b ∈ La.printT (x.d.name++[95,115,117,109]) x.d.labels,b≠10) (hP2:∀ b ∈ La.printT (x.d.name++[95,99,111,117,110,116]) x.d.labels,b≠10) :
  VaR p x (bkTx (x.d.name++bkB++S) Y Z 0 x.cs ((La.printT (x.d.name++[95,115,117,109]) x.d.labels++32::b1)++10::((La.printT (x.d.name++[95,99,111,117,110,116]) x.d.labels++32::Z x.n)++10::T'))) T' (x.cs.length+3):=by
 obtain ⟨y,z,T1,g1,g2⟩:=lp_by (p:=p) hA hW ((La.printT (x.d.name++[95,115,117,109]) x.d.labels++32::b1)++10::((La.printT (x.d.name++[95,99,111,117,110,116]) x.d.labels++32::Z x.n)++10::T')) x.cs 0 hC (by omega)
 have hz:=hW.z x.n hn2
 obtain ⟨s1,s2,s3⟩:=spl_by (T:=(La.printT (x.d.name++[95,99,111,117,110,116]) x.d.labels++32::Z x.n)++10::T') hP1 (fun b h=>(hb2 b h).1) (fun b h=>(hb2 b h).2)
 obtain ⟨c1,c2,c3⟩:=spl_by (T:=T') hP2 (fun b h=>(hz.2 b h).1) (fun b h=>(hz.2 b h).2)
 refine Or.inr (Or.inl ⟨h2,⟨⟨_,y,z,T1,_,S,b1,Z x.n,g1,?_,?_,hS,g2,s1,s2,hb,?_,?_,hz.1,?_,hn⟩,hsm⟩,hp,rfl⟩)
 ·exact pre_yes _ _
 ·exact pre_off _ _
 ·rw [s3];exact c1
 ·rw [s3];exact c2
 ·rw [s3];exact c3
abbrev sumW:List UInt8:=[95,115,117,109]
abbrev cntW:List UInt8:=[95,99,111,117,110,116]
abbrev quLn (A y z:List UInt8):List UInt8:=(A++((quW++[61,34])++y))++[34,125]++32::z
theorem moq_by {A y z T:List UInt8} (hA:∀ b ∈ A,b≠10) (hy:∀ b ∈ y,b≠34∧b≠10) (hz:∀ b ∈ z,b≠32∧b≠10):MoQ (quLn A y z++10::T) A y z T :=
 mo_by (name:=quW) (fun b hb=>by
  rcases List.mem_append.1 hb with q | q
  ·exact hA b q
  ·rcases List.mem_append.1 q with q | q
   ·exact (show ∀ b ∈ quW++[(61:UInt8),34],b≠10 by decide) b q
   ·exact (hy b q).2) (fun b hb=>(hy b hb).1) (fun b hb=>(hz b hb).1) (fun b hb=>(hz b hb).2)
theorem pre_no (P:List UInt8) (a b:UInt8) (A B:List UInt8) (h:a≠b):Lib.hasPrefix (P++a::A) (P++b::B)=false:=by
 cases e:Lib.hasPrefix (P++a::A) (P++b::B)
 ·rfl
 ·unfold Lib.hasPrefix at e
  rw [List.isPrefixOf_iff_prefix] at e
  obtain ⟨t,ht⟩:=e
  rw [List.append_assoc] at ht
  have:=List.append_cancel_left ht
  simp only [List.cons_append,List.cons.injEq] at this
  exact absurd this.1.symm h
theorem va_summ {p:Nat} {x:Vl} {S b b2 z1 z2 T':List UInt8} (h3:x.d.kind=3) (hc:x.cs=[]) (ht:x.t=0) (hS:othR x.d.name S=some x.d.labels) (hA:∀ b ∈ x.d.name++[123]++S,b≠10) (hn:x.n≠0) (hw:whoR b2=some x.n)
  (r1:RPf z1 x.mn) (r2:RPf z2 x.mx) (r3:RPf b x.sum) (hz1:∀ c ∈ z1,c≠32∧c≠10) (hz2:∀ c ∈ z2,c≠32∧c≠10) (hb:∀ c ∈ b,c≠32∧c≠10) (hb2:∀ c ∈ b2,c≠32∧c≠10)
  (hP1:∀ b ∈ La.printT (x.d.name++sumW) x.d.labels,b≠10) (hP2:∀ b ∈ La.printT (x.d.name++cntW) x.d.labels,b≠10) :
  VaR p x (quLn (x.d.name++[123]++S) [48] z1++10::(quLn (x.d.name++[123]++S) [49] z2++10::((La.printT (x.d.name++sumW) x.d.labels++32::b)++10::((La.printT (x.d.name++cntW) x.d.labels++32::b2)++10::T')))) T' 4:=by
 obtain ⟨s1,s2,s3⟩:=spl_by (T:=(La.printT (x.d.name++cntW) x.d.labels++32::b2)++10::T') hP1 (fun c h=>(hb c h).1) (fun c h=>(hb c h).2)
 obtain ⟨c1,c2,c3⟩:=spl_by (T:=T') hP2 (fun c h=>(hb2 c h).1) (fun c h=>(hb2 c h).2)
 refine Or.inr (Or.inr ⟨h3,hc,ht,Or.inl ⟨x.d.name++[123]++S,S,z1,z2,b,b2,_,_,?_,moq_by hA (by decide) hz1,pre_yes _ _,pre_off _ _,hS,r1,moq_by hA (by decide) hz2,r2,s1,s2,r3,?_,?_,hw,hn,?_,rfl⟩⟩)
 ·have:=pre_no x.d.name 123 95 (S++((quW++[61,34])++[48])++[34,125]++32::z1++10::(quLn (x.d.name++[123]++S) [49] z2++10::((La.printT (x.d.name++sumW) x.d.labels++32::b)++10::((La.printT (x.d.name++cntW) x.d.labels++32::b2)++10::T')))) [115,117,109] (by decide)
  rw [← this]
  congr 1
  simp only [List.append_assoc,List.cons_append,List.nil_append]
 ·rw [s3];exact c1
 ·rw [s3];exact c2
 ·rw [s3];exact c3
theorem va_summ0 {p:Nat} {x:Vl} {S b b2 T':List UInt8} (h3:x.d.kind=3) (hc:x.cs=[]) (ht:x.t=0) (hS:La.printT (x.d.name++sumW) x.d.labels=x.d.name++sumW++S) (hl:labR x.d.name (x.d.name++S)=some x.d.labels) (hn:x.n=0) (hm:x.mn=0∧x.mx=0) (hw:whoR b2=some x.n)
  (r3:RPf b x.sum) (hb:∀ c ∈ b,c≠32∧c≠10) (hb2:∀ c ∈ b2,c≠32∧c≠10)
  (hP1:∀ b ∈ La.printT (x.d.name++sumW) x.d.labels,b≠10) (hP2:∀ b ∈ La.printT (x.d.name++cntW) x.d.labels,b≠10) :
  VaR p x ((La.printT (x.d.name++sumW) x.d.labels++32::b)++10::((La.printT (x.d.name++cntW) x.d.labels++32::b2)++10::T')) T' 2:=by
 obtain ⟨s1,s2,s3⟩:=spl_by (T:=(La.printT (x.d.name++cntW) x.d.labels++32::b2)++10::T') hP1 (fun c h=>(hb c h).1) (fun c h=>(hb c h).2)
 obtain ⟨c1,c2,c3⟩:=spl_by (T:=T') hP2 (fun c h=>(hb2 c h).1) (fun c h=>(hb2 c h).2)
 refine Or.inr (Or.inr ⟨h3,hc,ht,Or.inr ⟨_,S,b,b2,?_,s1,s2,?_,?_,hl,r3,?_,?_,hw,hn,hm.1,hm.2,?_,rfl⟩⟩)
 ·rw [hS]
  simp only [List.append_assoc]
  rw [← List.append_assoc]
  exact pre_yes _ _
 ·rw [hS];exact pre_yes _ _
 ·rw [hS];exact pre_off _ _
 ·rw [s3];exact c1
 ·rw [s3];exact c2
 ·rw [s3];exact c3
end Go.Proofs.YtfkbjdgbpenflaaGreatDoor.Sc
