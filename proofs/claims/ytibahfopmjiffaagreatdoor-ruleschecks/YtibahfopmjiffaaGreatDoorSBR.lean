/- RULES: THE PREMISES of the document's Print; how long a rule's text is. Own work of the verifier. -/
import Derived.Test.YtibahfopmjiffaaGreatDoorSBN
import Derived.Test.YtibahfopmjiffaaGreatDoorSBQ
import Derived.Test.YtibahfopmjiffaaGreatDoorSAQ
import Derived.Lib.ItoaLen
import Derived.Test.YtibahfopmjiffaaGreatDoorSBP
set_option maxHeartbeats 1000000
namespace Go.Proofs.YtibahfopmjiffaaGreatDoor.Ru
open Go.RowKit Me
theorem rpr_all:RPr:=fun f hf W=>(Rl.dprint_any f hf W).mono fun e w' ⟨l,he,hl,hb⟩=>⟨by rw [he,Rl.doc_text f hf l hl],hb⟩
theorem dwhole_any (n:Nat) (hn:n < 18446744073709551616) (w:World):Calls Tryz.prog 60 #[.int .u64 (n:Int)] w fun e w'=>e=.returned (.string ⟨(Lib.decDigits n).toArray⟩)∧Below w.heap.size w w':=by
  have HU:Hid (∀ W,Calls Tryz.prog 91 #[.int .u64 (n:Int)] W fun e w'=>e=.returned (.agg #[.int .i64 0,.int .u64 (n:Int)])∧Below W.heap.size W w'):=fun W=>by
    have q:=refuns_any (n:Int) (by omega) (by omega) W
    rw [num_of (h:=0) (l:=(n:Int)) (by unfold hiOf loOf;constructor <;> omega)] at q
    exact q
  have HP:Hid (∀ W,Calls Tryz.prog 90 #[.agg #[.int .i64 0,.int .u64 (n:Int)]] W fun e w'=>e=.returned (.string ⟨(Lib.decDigits n).toArray⟩)∧Below W.heap.size W w'):=fun W=>by
    have hv:val 0 (n:Int)=(n:Int):=by unfold val;omega
    have q:=Wi.refprint_any 0 (n:Int) (by constructor <;> omega) W
    rw [hv,Lib.itoa_nonneg] at q
    exact q
  go_enter Tryz.func60,Tryz.ntmps60
  go_wp2_with fail
  refine (HU.out _).mono ?_
  rintro e w1 ⟨rfl,hb1⟩
  go_wp2_with fail
  refine (HP.out _).mono ?_
  rintro e w2 ⟨rfl,hb2⟩
  go_wp2_with fail
  go_ret
  exact ⟨rfl,bt hb1 hb2⟩
theorem wh_all:WhQ:=by
  intro n h0 h1 W
  obtain ⟨m,rfl⟩:=Int.eq_ofNat_of_zero_le h0
  have hm:m < 18446744073709551616:=by omega
  have HW:Hid (∀ W,Calls Tryz.prog 60 #[.int .u64 (m:Int)] W fun e w'=>e=.returned (.string ⟨(Lib.decDigits m).toArray⟩)∧Below W.heap.size W w'):=fun W=>dwhole_any m hm W
  rw [Lib.itoa_nonneg]
  have hw:IntKind.u64.wrap (m:Int)=(m:Int):=by rw [IntKind.wrap_u64];omega
  go_enter Tryz.func40,Tryz.ntmps40
  go_wp2_with fail
  refine (HW.out _).mono ?_
  rintro e w1 ⟨rfl,hb1⟩
  go_wp2_with fail
  go_ret
  exact ⟨rfl,hb1⟩
theorem itoa_short:∀ n:Int,0≤n→n≤9223372036854775807→(Lib.itoa n).length≤100:=fun n h0 h1=>by
  have:=Lib.itoa_length_le n (by omega) h1
  omega
theorem escL_len (q:Bool) (l:List UInt8):(La.escL q l).length≤2*l.length:=by
  induction l with
  | nil=>simp [La.escL]
  | cons b r ih =>
    rw [La.escL,List.length_append,List.length_cons]
    have:(La.esc1 q b).length≤2:=by
      unfold La.esc1
      split
      · simp
      · split <;> simp
    omega
theorem prB_len (L:List La.Lb):∀ f,(∀ a ∈ L,a.1.length≤2000∧a.2.length≤2000)→(La.prB f L).length≤L.length*6004:=by
  induction L with
  | nil=>intro f _;simp [La.prB]
  | cons a r ih =>
    intro f h
    have h1:=ih false (fun x hx=>h x (List.mem_cons_of_mem _ hx))
    have h2:=h a List.mem_cons_self
    have h3:=escL_len true a.2
    rw [La.prB,List.length_cons,List.length_append,List.length_cons,La.lbT]
    simp only [List.length_append,List.length_cons,List.length_nil]
    omega
theorem sgn_len (s:Bool):(Rl.sgn s).length≤1:=by cases s <;> simp [Rl.sgn]
theorem text_len (x:Nat):(Rl.pText x).length≤1000:=by
  unfold Rl.pText
  split
  · rename_i he
    have he':=of_decide_eq_true he
    have h0:x % 9223372036854775808≠0:=by omega
    have h1:x % 9223372036854775808 < 9218868437227405312:=by omega
    obtain ⟨s1,s2,s3,s4⟩:=Rl.sd_bounds x h0 h1
    obtain ⟨p0,p1⟩:=Rl.pt_bounds x h0 h1
    have h3:(Lib.decDigits (Rl.sd x).1).length≤20:=by rw [Lib.decDigits_length];exact Lib.nDigits_le20 _ (by omega)
    have h4:=Lib.itoa_length_le (Rl.pt x - 1) (by omega) (by omega)
    have h5:=sgn_len (decide (9223372036854775808≤x))
    unfold Rl.xText Rl.eHead
    split
    · simp only [List.length_append,List.length_cons,List.length_nil]
      omega
    · simp only [List.length_append,List.length_cons,List.length_nil,List.length_drop,List.length_take]
      omega
  · unfold Rl.fText
    split
    · split <;> decide
    · rename_i h0
      split
      · decide
      · split
        · split <;> decide
        · rename_i h1 h2
          obtain ⟨s1,s2,s3,s4⟩:=Rl.sd_bounds x h0 (by omega)
          obtain ⟨p0,p1⟩:=Rl.pt_bounds x h0 (by omega)
          have h3:(Lib.decDigits (Rl.sd x).1).length≤20:=by rw [Lib.decDigits_length];exact Lib.nDigits_le20 _ (by omega)
          have h5:=sgn_len (decide (9223372036854775808≤x))
          unfold Rl.fB
          split
          · simp only [List.length_append,List.length_cons,List.length_nil,List.length_take,List.length_replicate]
            omega
          · split
            · simp only [List.length_append,List.length_take,List.length_replicate]
              omega
            · simp only [List.length_append,List.length_cons,List.length_nil,List.length_take,List.length_drop]
              omega
theorem plain_len {c:Bool} {l:List UInt8} (h:La.plainB c l=true):l.length≤64:=by
  unfold La.plainB at h
  simp only [Bool.and_eq_true,decide_eq_true_eq] at h
  omega
theorem chkL_len:∀ (L:List La.Lb) (p:Option (List UInt8)),La.chkL L p=0→∀ a ∈ L,a.1.length≤2000∧a.2.length≤2000
  | [],_,_,a,ha=>by cases ha
  | b::r,p,h,a,ha=>by
    have h1:La.lnameB b.1=true∧La.txE b.2=0∧∃ q,La.chkL r q=0:=by
      unfold La.chkL at h
      by_cases k:La.lnameB b.1=false
      · rw [if_pos k] at h;exact absurd h (by decide)
      · rw [if_neg k] at h
        by_cases k2:La.txE b.2≠0
        · rw [if_pos k2] at h;exact absurd h k2
        · rw [if_neg k2] at h
          refine ⟨by simpa using k,by simpa using k2,?_⟩
          cases p with
          | none=>exact ⟨_,h⟩
          | some q =>
            dsimp only at h
            split at h
            · rename_i k3;exact absurd h k3
            · exact ⟨_,h⟩
    obtain ⟨h1,h2,q,h3⟩:=h1
    rcases List.mem_cons.1 ha with rfl | ha
    · refine ⟨?_,?_⟩
      · unfold La.lnameB at h1
        simp only [Bool.and_eq_true] at h1
        have:=plain_len h1.1.1.1
        omega
      · unfold La.txE at h2
        split at h2
        · exact absurd h2 (by decide)
        · omega
    · exact chkL_len r q h3 a ha
theorem chkD_len {nm:List UInt8} {lb:List La.Lb} (h:La.chkD ⟨1,nm,[],lb⟩=0):nm.length≤64∧lb.length≤16∧(∀ a ∈ lb,a.1.length≤2000∧a.2.length≤2000)∧(La.printT nm lb).length≤100000:=by
  unfold La.chkD at h
  dsimp only at h
  rw [if_neg (by decide)] at h
  split at h
  · exact absurd h (by decide)
  rename_i k
  split at h
  · rename_i k2;exact absurd h k2
  split at h
  · exact absurd h (by decide)
  rename_i k3
  have hn:La.nameB nm=true:=by simpa using k
  unfold La.nameB at hn
  simp only [Bool.and_eq_true] at hn
  have h1:=plain_len hn.1.1.1
  have h2:=chkL_len lb none h
  have h3:=prB_len lb true h2
  have h4:lb.length≤16:=by omega
  refine ⟨h1,h4,h2,?_⟩
  unfold La.printT
  rw [List.length_append,List.length_append]
  split
  · simp;omega
  · simp;omega
theorem se_all (u:World):SeD u:=by
  intro nm lb la lc hk hl W hb
  obtain ⟨h1,h2,h3,h4⟩:=chkD_len hk
  obtain ⟨ao,b,o,cap,e,k1,-,-,k2⟩:=hl
  obtain ⟨rfl,-,rfl⟩:la=ao∧lb.length=lb.length∧lc=cap:=by simpa using e
  exact La.dprint_any nm la b o lc lb (fun q=>(k1 q).1) (by omega) (fun a ha=>by have:=(h3 a ha).2;omega) (by omega) W (k2.below hb)
theorem ms_len {q:Nat × List UInt8} {nm:List UInt8} {lb:List La.Lb} {w n d:Int} (hq:q.2.length≤8) (hk:La.chkD ⟨1,nm,[],lb⟩=0) (hw:-9223372036854775808≤w∧w≤9223372036854775807) (hn:-9223372036854775808≤n∧n≤9223372036854775807) (hd:-9223372036854775808≤d∧d≤9223372036854775807):(msT q nm lb w n d).length≤200000:=by
  have h1:=(chkD_len hk).2.2.2
  have h2:=Lib.itoa_length_le w hw.1 hw.2
  have h3:=Lib.itoa_length_le n hn.1 hn.2
  have h4:=Lib.itoa_length_le d hd.1 hd.2
  unfold msT
  simp only [List.length_append,List.length_cons,List.length_nil]
  split
  · simp only [List.length_append,List.length_cons,List.length_nil];omega
  · simp only [List.length_nil];omega
theorem ndsL_two (a b:RT):(ndsL [a,b]).length=(nds a).length+(nds b).length:=by simp [ndsL]
theorem wr_len:∀ t:RT,(∀ s ∈ nds t,okN s=0∧szI s)→(wrT t).length≤300000*(nds t).length:=by
  refine RT.ind ?_
  intro k x nm lb w n d ar ih hok
  obtain ⟨h0,hw,hn,hd⟩:=hok _ (nds_self _)
  have hr:1≤k∧k≤21:=ok_range h0
  obtain ⟨hne,l2,l1,-⟩:=okN_len h0
  have hs:=shp_val k hr
  have hkw:=kw_len k
  have hkid:∀ a ∈ ar,(wrT a).length≤300000*(nds a).length:=fun a ha=>ih a ha fun s hs=>hok s (by
    unfold nds
    exact List.mem_cons_of_mem _ (ndsL_mem ha hs))
  have hnn:(nds (.mk k x nm lb w n d ar)).length=(ndsL ar).length+1:=by rw [nds,List.length_cons]
  rw [hnn]
  by_cases s1:shp k=1
  · rw [wrT,if_pos s1]
    have:=text_len x
    omega
  by_cases s23:shp k=2∨shp k=3
  · rw [wrT,if_neg s1,if_pos s23]
    have:=ms_len (q:=kwI k) hkw (ok_chk h0 s23) hw hn hd
    omega
  by_cases s7:shp k=7
  · rw [wrT,if_neg s1,if_neg s23,if_pos s7]
    have hlen:=l1 s7
    obtain ⟨a,rfl⟩:∃ a,ar=[a]:=by
      match ar,hlen with
      | [a],_=>exact ⟨a,rfl⟩
    have h1:=hkid a (by simp)
    have h2:(ndsL [a]).length=(nds a).length:=by simp [ndsL]
    have h3:(wrTs [a]).getD 0 []=wrT a:=by rw [wrTs];rfl
    rw [h3,h2]
    simp only [List.length_append,List.length_cons,List.length_nil]
    omega
  · rw [wrT,if_neg s1,if_neg s23,if_neg s7]
    have e456:shp k=4∨shp k=5∨shp k=6:=by
      have:=kwI_le k
      omega
    have hlen:=l2 e456
    obtain ⟨a,b,rfl⟩:∃ a b,ar=[a,b]:=by
      match ar,hlen with
      | [a,b],_=>exact ⟨a,b,rfl⟩
    have h1:=hkid a (by simp)
    have h2:=hkid b (by simp)
    have h3:(wrTs [a,b]).getD 0 []=wrT a:=by rw [wrTs];rfl
    have h4:(wrTs [a,b]).getD 1 []=wrT b:=by rw [wrTs,wrTs];rfl
    rw [h3,h4,ndsL_two]
    simp only [List.length_append,List.length_cons,List.length_nil]
    omega
theorem wr_short {t:RT} (h:ckE t=0) (hz:∀ s ∈ nds t,szN s∧szI s):(wrT t).length≤200000000:=by
  have h1:=wr_len t fun s hs=>⟨ck_nodes h s hs,(hz s hs).2⟩
  have h2:(nds t).length≤512:=by
    have hk:chkE t=0:=by
      unfold ckE at h
      by_cases q:chkE t=0
      · exact q
      · rw [if_pos q] at h;exact h
    unfold chkE at hk
    split at hk
    · exact absurd hk (by decide)
    · omega
  omega
theorem dpr_any (t:RT) (v:Value) (w:World) (hv:RV 0 w t v) (hz:∀ s ∈ nds t,szN s∧szI s) :
    Calls Tryz.prog 10 #[v] w fun e w'=>PnD t e∧Below w.heap.size w w' :=
  dprintR_any rpr_all wh_all itoa_short t v w (se_all w) hv hz fun h=>by have:=wr_short h hz;omega
theorem rpr_any (t:RT) (v:Value) (w:World) (hv:RV 0 w t v) (hz:∀ s ∈ nds t,szN s∧szI s) (he:Env w) :
    Calls Tryz.prog 9 #[v] w fun e w'=>PnQ t e∧Below w.heap.size w w' :=
  rprint_any t v w hv hz (fun h=>by have:=wr_short h hz;omega) he
end Go.Proofs.YtibahfopmjiffaaGreatDoor.Ru
/- RULES: RulesChecks' walk. Own work of the verifier. -/
set_option maxRecDepth 100000
set_option maxHeartbeats 8000000
namespace Go.Proofs.YtibahfopmjiffaaGreatDoor.Ru
open Go.RowKit Go.Sort Me
noncomputable def pnE (t:RT):Int:=if ckE t=0 then (if 65536 < (wrT t).length then 4 else 0) else ckE t
noncomputable def pnT (t:RT):List UInt8:=if ckE t=0 then (if 65536 < (wrT t).length then [] else wrT t) else []
theorem pn_q {t:RT} {e:Ending} (h:PnQ t e):e=.returned (.tuple #[.string ⟨(pnT t).toArray⟩,.int .i64 (pnE t)]):=by
  unfold pnE pnT
  rcases h with ⟨h1,rfl⟩ | ⟨h1,h2,rfl⟩ | ⟨h1,h2,rfl⟩
  · rw [if_neg h1,if_neg h1]
  · rw [if_pos h1,if_pos h1,if_pos h2,if_pos h2]
  · rw [if_pos h1,if_pos h1,if_neg (by omega),if_neg (by omega)]
theorem pn_d {t:RT} {e:Ending} (h:PnD t e):e=.returned (.tuple #[.string ⟨(pnT t).toArray⟩,.int .i64 (pnE t)]):=pn_q h
theorem hx_at {W W1:World} {g:Nat} {c:Array Value} {t:TypeId} (h:W.heap[g]? =some (.cells c t)) (hb:Below W.heap.size W W1):W1.heap[g]? =some (.cells c t):=(hb.block g (Array.getElem?_eq_some_iff.1 h).1).trans h
theorem szA_X1 {t:RT} (h:∀ s ∈ nds t,szA s):∀ s ∈ nds t,szX s:=fun s hs=>by
  obtain ⟨k,x,nm,lb,w,n,d,ar⟩:=s
  exact (h _ hs).1.1
structure K1 (w:World) (t:RT) (gx:Nat) (cx:Array Value) (gy:Nat) (cy:Array Value) (W:World):Prop where
  kb:Below w.heap.size w W
  kg:W.heap[gx]? =some (Obj.cells cx 26)
  kh:W.heap[gy]? =some (Obj.cells cy 26)
  kr:RV 0 W t (.agg cy)
theorem K1.below {w W W1:World} {t:RT} {gx gy:Nat} {cx cy:Array Value} (h:K1 w t gx cx gy cy W) (hb:Below W.heap.size W W1):K1 w t gx cx gy cy W1:=⟨bt h.kb hb,hx_at h.kg hb,hx_at h.kh hb,h.kr.below hb⟩
abbrev d8 (g:Nat) (k:Int) (x:Nat) (nm:List UInt8) (lv:Value) (w n d:Int) (av:Value) (W:World):Prop :=
  W.cell? ⟨g,0,none⟩=some (.int .i64 k)∧W.cell? ⟨g,1,none⟩=some (.float .f64 x)∧W.cell? ⟨g,2,none⟩=some (.string ⟨nm.toArray⟩)∧W.cell? ⟨g,3,none⟩=some lv∧W.cell? ⟨g,4,none⟩=some (.int .i64 w)∧W.cell? ⟨g,5,none⟩=some (.int .i64 n)∧W.cell? ⟨g,6,none⟩=some (.int .i64 d)∧W.cell? ⟨g,7,none⟩=some av
theorem checks_walk (w:World) (he:Env w) (t:RT) (vx:Value) (hx:RVh w t vx) (ax:∀ s ∈ nds t,szA s) :
    Calls Tryz.prog 3 #[vx] w fun e w'=>e=.returned (.bool true)∧Below w.heap.size w w':=by
  have hNI:∀ s ∈ nds t,szN s∧szI s:=fun s hs=>⟨(ax s hs).1,(ax s hs).2.1⟩
  have hN:∀ s ∈ nds t,szN s:=fun s hs=>(ax s hs).1
  have HAw:Hid (∀ W,Below w.heap.size w W→Calls Tryz.prog 4 #[] W fun e w'=>e=.returned (.bool true)∧Below W.heap.size W w'):=fun W hb=>awake_any W (he.below hb)
  have HSx:Hid (∀ W,Below w.heap.size w W→Calls Tryz.prog 5 #[vx] W fun e w'=>e=.returned (.bool (decide (0≤lfF t 32768)))∧Below W.heap.size W w'):=fun W hb=>small_any t vx W (RVh.rv _ _ (RVh.below hb _ _ hx)) (fun s hs=>(ax s hs).2.2)
  have HOx:Hid (decide (0≤lfF t 32768)=true→∀ W,Below w.heap.size w W→Calls Tryz.prog 6 #[vx] W fun e w'=>OfQ t W e w'):=fun h W hb=>of_any t vx W (RVh.below hb _ _ hx) (lf_small t 32768 (by decide) (of_decide_eq_true h))
  have HTy:Hid (∀ v W,Below w.heap.size w W→RV 0 W t v→Calls Tryz.prog 7 #[v] W fun e w'=>e=.returned (.tuple #[.bool (if ckE t=0 then trB (shp t.kd) else false),.int .i64 (ckE t)])∧Below W.heap.size W w'):=fun v W hb hv=>type_any t v W hv hN (he.kd.below hb)
  have HTd:Hid (∀ W,Below w.heap.size w W→Calls Tryz.prog 8 #[vx] W fun e w'=>e=.returned (.tuple #[.bool (if ckE t=0 then trB (shp t.kd) else false),.int .i64 (ckE t)])∧Below W.heap.size W w'):=fun W hb=>dtypeR_any t vx W (RVh.rv _ _ (RVh.below hb _ _ hx)) hN
  have HPr:Hid (∀ v W,Below w.heap.size w W→RV 0 W t v→Calls Tryz.prog 9 #[v] W fun e w'=>e=.returned (.tuple #[.string ⟨(pnT t).toArray⟩,.int .i64 (pnE t)])∧Below W.heap.size W w'):=fun v W hb hv=>(rpr_any t v W hv hNI (he.below hb)).mono fun e w' ⟨h,k⟩=>⟨pn_q h,k⟩
  have HPd:Hid (∀ W,Below w.heap.size w W→Calls Tryz.prog 10 #[vx] W fun e w'=>e=.returned (.tuple #[.string ⟨(pnT t).toArray⟩,.int .i64 (pnE t)])∧Below W.heap.size W w'):=fun W hb=>(dpr_any t vx W (RVh.rv _ _ (RVh.below hb _ _ hx)) hNI).mono fun e w' ⟨h,k⟩=>⟨pn_d h,k⟩
  have HCk:Hid (∀ v W,Below w.heap.size w W→RV 0 W t v→Calls Tryz.prog 11 #[v] W fun e w'=>e=.returned (.int .i64 (ckE t))∧Below W.heap.size W w'):=fun v W hb hv=>check_any t v W hv hN (he.kd.below hb)
  have HCd:Hid (∀ W,Below w.heap.size w W→Calls Tryz.prog 12 #[vx] W fun e w'=>e=.returned (.int .i64 (ckE t))∧Below W.heap.size W w'):=fun W hb=>dcheckR_any t vx W (RVh.rv _ _ (RVh.below hb _ _ hx)) hN
  have HSd:Hid (∀ v W,Below w.heap.size w W→RV 0 W t v→Calls Tryz.prog 13 #[v,vx] W fun e w'=>e=.returned (.bool true)∧Below W.heap.size W w'):=fun v W hb hv=>by
    have q:=dsame_any t t v vx W hv (RVh.rv _ _ (RVh.below hb _ _ hx)) (szA_X1 ax) (szA_X1 ax)
    rw [smB_refl] at q
    exact q
  obtain ⟨k0,x0,nm0,la0,ln0,lc0,w0,n0,d0,aa0,an0,ac0,rfl⟩:=(RVh.rv _ _ hx).form
  obtain ⟨W0,hW0⟩:∃ W0,W0=w.alloc (.cells (rc k0 x0 nm0 (.slice la0 ln0 lc0) w0 n0 d0 (.slice aa0 an0 ac0)) 26):=⟨_,rfl⟩
  have hb0:Below w.heap.size w W0:=by rw [hW0];exact bel1 w _
  have hn0:W0.heap[w.heap.size]? =some (.cells (rc k0 x0 nm0 (.slice la0 ln0 lc0) w0 n0 d0 (.slice aa0 an0 ac0)) 26):=by rw [hW0];exact new_1 w _
  have HW0:=hid_of hW0
  have HB0:=hid_of hb0
  have HN0:=hid_of hn0
  have sF:=store_f
  clear he hx ax hNI hN hW0 hb0 hn0
  generalize hp:decide (0≤lfF t 32768)=px at *
  generalize (if ckE t=0 then trB (shp t.kd) else false)=tb at *
  generalize pnT t=L at *
  generalize pnE t=pe at *
  generalize ckE t=z at *
  clear hp
  go_enter Tryz.func3,Tryz.ntmps3
  go_upto_region 1 with fail
  rw [← HW0.out]
  clear HW0
  go_wp2_with fail
  refine Calls.mono (HAw.out _ HB0.out) ?_
  rintro e W1 ⟨rfl,hb1⟩
  have HB1:=hid_of (bt HB0.out hb1)
  have HN1:=hid_of (hx_at HN0.out hb1)
  clear HB0 HN0 hb1 HAw
  go_upto_region 3 with fail
  obtain ⟨y0,y1,y2,y3,y4,y5,y6,y7⟩:=eight HN1.out
  go_wp2_with fail
  refine Calls.mono (HSx.out _ HB1.out) ?_
  rintro e W2 ⟨rfl,hb2⟩
  have HB2:=hid_of (bt HB1.out hb2)
  have HN2:=hid_of (hx_at HN1.out hb2)
  clear HB1 HN1 hb2 HSx y0 y1 y2 y3 y4 y5 y6 y7
  cases px
  · clear HOx HTy HTd HPr HPd HCk HCd HSd HN2
    go_wp2_with fail
    go_ret
    exact ⟨rfl,HB2.out⟩
  have HOx1:=hid_of (HOx.out rfl)
  clear HOx
  go_upto_region 5 with fail
  obtain ⟨gx,hgx⟩:∃ gx,gx=w.heap.size:=⟨_,rfl⟩
  rw [← hgx] at HN2
  simp only [← hgx]
  have HGx:=hid_of hgx
  clear hgx
  obtain ⟨y0,y1,y2,y3,y4,y5,y6,y7⟩:=eight HN2.out
  go_wp2_with fail
  refine Calls.mono (HOx1.out _ HB2.out) ?_
  rintro e W3 ⟨v3,rfl,hv3,hb3⟩
  obtain ⟨k1,x1,nm1,la1,ln1,lc1,w1,n1,d1,aa1,an1,ac1,rfl⟩:=hv3.form
  have HV3:=hid_of (hv3.mono (Nat.zero_le _))
  have HB3:=hid_of (bt HB2.out hb3)
  have HN3:=hid_of (hx_at HN2.out hb3)
  clear HB2 HN2 hb3 hv3 HOx1 y0 y1 y2 y3 y4 y5 y6 y7
  go_upto_region 6 with fail
  obtain ⟨W4,hW4⟩:∃ W4,W4=W3.alloc (.cells (rc k1 x1 nm1 (.slice la1 ln1 lc1) w1 n1 d1 (.slice aa1 an1 ac1)) 26):=⟨_,rfl⟩
  have hb4:Below W3.heap.size W3 W4:=by rw [hW4];exact bel1 W3 _
  have hn4:W4.heap[W3.heap.size]? =some (.cells (rc k1 x1 nm1 (.slice la1 ln1 lc1) w1 n1 d1 (.slice aa1 an1 ac1)) 26):=by rw [hW4];exact new_1 W3 _
  rw [← hW4]
  have HK4:Hid (K1 w t gx (rc k0 x0 nm0 (.slice la0 ln0 lc0) w0 n0 d0 (.slice aa0 an0 ac0)) W3.heap.size (rc k1 x1 nm1 (.slice la1 ln1 lc1) w1 n1 d1 (.slice aa1 an1 ac1)) W4):=⟨bt HB3.out hb4,hx_at HN3.out hb4,hn4,HV3.out.below hb4⟩
  clear hW4 hb4 hn4 HB3 HN3 HV3 HGx
  generalize W3.heap.size=gy at *
  obtain ⟨y0,y1,y2,y3,y4,y5,y6,y7⟩:=eight HK4.out.kh
  go_wp2_with fail
  refine Calls.mono (HTy.out _ _ HK4.out.kb HK4.out.kr) ?_
  rintro e W5 ⟨rfl,hb⟩
  have HK5:=hid_of (HK4.out.below hb)
  clear hb HK4 HTy y0 y1 y2 y3 y4 y5 y6 y7
  obtain ⟨y0,y1,y2,y3,y4,y5,y6,y7⟩:=eight HK5.out.kg
  go_wp2_with fail
  refine Calls.mono (HTd.out _ HK5.out.kb) ?_
  rintro e W6 ⟨rfl,hb⟩
  have HK6:=hid_of (HK5.out.below hb)
  clear hb HK5 HTd y0 y1 y2 y3 y4 y5 y6 y7
  obtain ⟨y0,y1,y2,y3,y4,y5,y6,y7⟩:=eight HK6.out.kh
  go_wp2_with fail
  refine Calls.mono (HPr.out _ _ HK6.out.kb HK6.out.kr) ?_
  rintro e W7 ⟨rfl,hb⟩
  have HK7:=hid_of (HK6.out.below hb)
  clear hb HK6 HPr y0 y1 y2 y3 y4 y5 y6 y7
  obtain ⟨y0,y1,y2,y3,y4,y5,y6,y7⟩:=eight HK7.out.kg
  go_wp2_with fail
  refine Calls.mono (HPd.out _ HK7.out.kb) ?_
  rintro e W8 ⟨rfl,hb⟩
  have HK8:=hid_of (HK7.out.below hb)
  clear hb HK7 HPd y0 y1 y2 y3 y4 y5 y6 y7
  go_upto_region 10 with fail
  have HC1:Hid (∀ W,Below W8.heap.size W8 W→Calls Tryz.prog 11 #[.agg (rc k1 x1 nm1 (.slice la1 ln1 lc1) w1 n1 d1 (.slice aa1 an1 ac1))] W fun e w'=>e=.returned (.int .i64 z)∧Below W.heap.size W w'):=fun W hb=>HCk.out _ W (bt HK8.out.kb hb) (HK8.out.kr.below hb)
  have HC2:Hid (∀ W,Below W8.heap.size W8 W→Calls Tryz.prog 12 #[.agg (rc k0 x0 nm0 (.slice la0 ln0 lc0) w0 n0 d0 (.slice aa0 an0 ac0))] W fun e w'=>e=.returned (.int .i64 z)∧Below W.heap.size W w'):=fun W hb=>HCd.out W (bt HK8.out.kb hb)
  have HC3:Hid (∀ W,Below W8.heap.size W8 W→Calls Tryz.prog 13 #[.agg (rc k1 x1 nm1 (.slice la1 ln1 lc1) w1 n1 d1 (.slice aa1 an1 ac1)),.agg (rc k0 x0 nm0 (.slice la0 ln0 lc0) w0 n0 d0 (.slice aa0 an0 ac0))] W fun e w'=>e=.returned (.bool true)∧Below W.heap.size W w'):=fun W hb=>HSd.out _ W (bt HK8.out.kb hb) (HK8.out.kr.below hb)
  have HKp:Hid (∀ W1,Below W8.heap.size W8 W1→(fun W=>d8 gx k0 x0 nm0 (.slice la0 ln0 lc0) w0 n0 d0 (.slice aa0 an0 ac0) W∧d8 gy k1 x1 nm1 (.slice la1 ln1 lc1) w1 n1 d1 (.slice aa1 an1 ac1) W) W1):=fun W1 hb=>⟨eight (hx_at HK8.out.kg hb),eight (hx_at HK8.out.kh hb)⟩
  have HBw:=hid_of HK8.out.kb
  clear HCk HCd HSd HK8
  go_region_held3 (fun W=>d8 gx k0 x0 nm0 (.slice la0 ln0 lc0) w0 n0 d0 (.slice aa0 an0 ac0) W∧d8 gy k1 x1 nm1 (.slice la1 ln1 lc1) w1 n1 d1 (.slice aa1 an1 ac1) W)
    (((with_reducible refine HKp.out _ ?_);repeat (first | with_reducible exact hB9 | with_reducible exact Below.refl _ _ | with_reducible refine belD' ?_ | with_reducible refine belN' _ ?_)))
    (first
      | (go_at_call 11;(with_reducible refine Calls.mono (HC1.out _ (by repeat (first | with_reducible exact hB9 | with_reducible exact Below.refl _ _ | with_reducible refine belD' ?_ | with_reducible refine belN' _ ?_))) ?_);rintro e w9 ⟨rfl,hb9⟩;have hB9:Below W8.heap.size W8 w9:=bt (by repeat (first | with_reducible exact hB9 | with_reducible exact Below.refl _ _ | with_reducible refine belD' ?_ | with_reducible refine belN' _ ?_)) hb9)
      | (go_at_call 12;(with_reducible refine Calls.mono (HC2.out _ (by repeat (first | with_reducible exact hB9 | with_reducible exact Below.refl _ _ | with_reducible refine belD' ?_ | with_reducible refine belN' _ ?_))) ?_);rintro e w9 ⟨rfl,hb9⟩;have hB9:Below W8.heap.size W8 w9:=bt (by repeat (first | with_reducible exact hB9 | with_reducible exact Below.refl _ _ | with_reducible refine belD' ?_ | with_reducible refine belN' _ ?_)) hb9)
      | (go_at_call 13;(with_reducible refine Calls.mono (HC3.out _ (by repeat (first | with_reducible exact hB9 | with_reducible exact Below.refl _ _ | with_reducible refine belD' ?_ | with_reducible refine belN' _ ?_))) ?_);rintro e w9 ⟨rfl,hb9⟩;have hB9:Below W8.heap.size W8 w9:=bt (by repeat (first | with_reducible exact hB9 | with_reducible exact Below.refl _ _ | with_reducible refine belD' ?_ | with_reducible refine belN' _ ?_)) hb9))
  all_goals
    go_wp2_with fail
    go_ret
    exact ⟨rfl,bt HBw.out hB9⟩
end Go.Proofs.YtibahfopmjiffaaGreatDoor.Ru
