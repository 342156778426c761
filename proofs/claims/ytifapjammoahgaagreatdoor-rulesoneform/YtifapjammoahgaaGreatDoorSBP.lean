/- RULES: how long a rule's text is. Own work of the verifier. -/
import Derived.Test.YtifapjammoahgaaGreatDoorSBO
import Derived.Lib.ItoaLen
import Derived.Test.YtifapjammoahgaaGreatDoorSBJ
import Derived.Test.YtifapjammoahgaaGreatDoorSBN
import Derived.Test.YtifapjammoahgaaGreatDoorSAV
import Derived.Test.YtifapjammoahgaaGreatDoorSAZ
set_option maxHeartbeats 1000000
namespace Go.Proofs.YtifapjammoahgaaGreatDoor.Ru
open Go.RowKit Me
theorem ck_nodes {t:RT} (h:ckE t=0):∀ s ∈ nds t,okN s=0:=by
  have hk:chkE t=0:=by
    unfold ckE at h
    by_cases q:chkE t=0
    · exact q
    · rw [if_pos q] at h;exact h
  exact chkE_zero hk
theorem escL_len (q:Bool) (l:List UInt8):(La.escL q l).length≤2*l.length:=by
  induction l with
  | nil=>simp [La.escL]
  | cons b r ih =>
    rw [La.escL,List.length_append,List.length_cons]
    have:(La.esc1 q b).length≤2:=by
      unfold La.esc1
      split
      · simp
      · split <;> simp
    omega
theorem prB_len (L:List La.Lb):∀ f,(∀ a ∈ L,a.1.length≤2000∧a.2.length≤2000)→(La.prB f L).length≤L.length*6004:=by
  induction L with
  | nil=>intro f _;simp [La.prB]
  | cons a r ih =>
    intro f h
    have h1:=ih false (fun x hx=>h x (List.mem_cons_of_mem _ hx))
    have h2:=h a List.mem_cons_self
    have h3:=escL_len true a.2
    rw [La.prB,List.length_cons,List.length_append,List.length_cons,La.lbT]
    simp only [List.length_append,List.length_cons,List.length_nil]
    omega
theorem sgn_len (s:Bool):(Rl.sgn s).length≤1:=by cases s <;> simp [Rl.sgn]
theorem text_len (x:Nat):(Rl.pText x).length≤1000:=by
  unfold Rl.pText
  split
  · rename_i he
    have he':=of_decide_eq_true he
    have h0:x % 9223372036854775808≠0:=by omega
    have h1:x % 9223372036854775808 < 9218868437227405312:=by omega
    obtain ⟨s1,s2,s3,s4⟩:=Rl.sd_bounds x h0 h1
    obtain ⟨p0,p1⟩:=Rl.pt_bounds x h0 h1
    have h3:(Lib.decDigits (Rl.sd x).1).length≤20:=by rw [Lib.decDigits_length];exact Lib.nDigits_le20 _ (by omega)
    have h4:=Lib.itoa_length_le (Rl.pt x - 1) (by omega) (by omega)
    have h5:=sgn_len (decide (9223372036854775808≤x))
    unfold Rl.xText Rl.eHead
    split
    · simp only [List.length_append,List.length_cons,List.length_nil]
      omega
    · simp only [List.length_append,List.length_cons,List.length_nil,List.length_drop,List.length_take]
      omega
  · unfold Rl.fText
    split
    · split <;> decide
    · rename_i h0
      split
      · decide
      · split
        · split <;> decide
        · rename_i h1 h2
          obtain ⟨s1,s2,s3,s4⟩:=Rl.sd_bounds x h0 (by omega)
          obtain ⟨p0,p1⟩:=Rl.pt_bounds x h0 (by omega)
          have h3:(Lib.decDigits (Rl.sd x).1).length≤20:=by rw [Lib.decDigits_length];exact Lib.nDigits_le20 _ (by omega)
          have h5:=sgn_len (decide (9223372036854775808≤x))
          unfold Rl.fB
          split
          · simp only [List.length_append,List.length_cons,List.length_nil,List.length_take,List.length_replicate]
            omega
          · split
            · simp only [List.length_append,List.length_take,List.length_replicate]
              omega
            · simp only [List.length_append,List.length_cons,List.length_nil,List.length_take,List.length_drop]
              omega
theorem plain_len {c:Bool} {l:List UInt8} (h:La.plainB c l=true):l.length≤64:=by
  unfold La.plainB at h
  simp only [Bool.and_eq_true,decide_eq_true_eq] at h
  omega
theorem chkL_len:∀ (L:List La.Lb) (p:Option (List UInt8)),La.chkL L p=0→∀ a ∈ L,a.1.length≤2000∧a.2.length≤2000
  | [],_,_,a,ha=>by cases ha
  | b::r,p,h,a,ha=>by
    have h1:La.lnameB b.1=true∧La.txE b.2=0∧∃ q,La.chkL r q=0:=by
      unfold La.chkL at h
      by_cases k:La.lnameB b.1=false
      · rw [if_pos k] at h;exact absurd h (by decide)
      · rw [if_neg k] at h
        by_cases k2:La.txE b.2≠0
        · rw [if_pos k2] at h;exact absurd h k2
        · rw [if_neg k2] at h
          refine ⟨by simpa using k,by simpa using k2,?_⟩
          cases p with
          | none=>exact ⟨_,h⟩
          | some q =>
            dsimp only at h
            split at h
            · rename_i k3;exact absurd h k3
            · exact ⟨_,h⟩
    obtain ⟨h1,h2,q,h3⟩:=h1
    rcases List.mem_cons.1 ha with rfl | ha
    · refine ⟨?_,?_⟩
      · unfold La.lnameB at h1
        simp only [Bool.and_eq_true] at h1
        have:=plain_len h1.1.1.1
        omega
      · unfold La.txE at h2
        split at h2
        · exact absurd h2 (by decide)
        · omega
    · exact chkL_len r q h3 a ha
theorem chkD_len {nm:List UInt8} {lb:List La.Lb} (h:La.chkD ⟨1,nm,[],lb⟩=0):nm.length≤64∧lb.length≤16∧(∀ a ∈ lb,a.1.length≤2000∧a.2.length≤2000)∧(La.printT nm lb).length≤100000:=by
  unfold La.chkD at h
  dsimp only at h
  rw [if_neg (by decide)] at h
  split at h
  · exact absurd h (by decide)
  rename_i k
  split at h
  · rename_i k2;exact absurd h k2
  split at h
  · exact absurd h (by decide)
  rename_i k3
  have hn:La.nameB nm=true:=by simpa using k
  unfold La.nameB at hn
  simp only [Bool.and_eq_true] at hn
  have h1:=plain_len hn.1.1.1
  have h2:=chkL_len lb none h
  have h3:=prB_len lb true h2
  have h4:lb.length≤16:=by omega
  refine ⟨h1,h4,h2,?_⟩
  unfold La.printT
  rw [List.length_append,List.length_append]
  split
  · simp;omega
  · simp;omega
theorem ms_len {q:Nat × List UInt8} {nm:List UInt8} {lb:List La.Lb} {w n d:Int} (hq:q.2.length≤8) (hk:La.chkD ⟨1,nm,[],lb⟩=0) (hw:-9223372036854775808≤w∧w≤9223372036854775807) (hn:-9223372036854775808≤n∧n≤9223372036854775807) (hd:-9223372036854775808≤d∧d≤9223372036854775807):(msT q nm lb w n d).length≤200000:=by
  have h1:=(chkD_len hk).2.2.2
  have h2:=Lib.itoa_length_le w hw.1 hw.2
  have h3:=Lib.itoa_length_le n hn.1 hn.2
  have h4:=Lib.itoa_length_le d hd.1 hd.2
  unfold msT
  simp only [List.length_append,List.length_cons,List.length_nil]
  split
  · simp only [List.length_append,List.length_cons,List.length_nil];omega
  · simp only [List.length_nil];omega
theorem ndsL_two (a b:RT):(ndsL [a,b]).length=(nds a).length+(nds b).length:=by simp [ndsL]
theorem wr_len:∀ t:RT,(∀ s ∈ nds t,okN s=0∧szI s)→(wrT t).length≤300000*(nds t).length:=by
  refine RT.ind ?_
  intro k x nm lb w n d ar ih hok
  obtain ⟨h0,hw,hn,hd⟩:=hok _ (nds_self _)
  have hr:1≤k∧k≤21:=ok_range h0
  obtain ⟨hne,l2,l1,-⟩:=okN_len h0
  have hs:=shp_val k hr
  have hkw:=kw_len k
  have hkid:∀ a ∈ ar,(wrT a).length≤300000*(nds a).length:=fun a ha=>ih a ha fun s hs=>hok s (by
    unfold nds
    exact List.mem_cons_of_mem _ (ndsL_mem ha hs))
  have hnn:(nds (.mk k x nm lb w n d ar)).length=(ndsL ar).length+1:=by rw [nds,List.length_cons]
  rw [hnn]
  by_cases s1:shp k=1
  · rw [wrT,if_pos s1]
    have:=text_len x
    omega
  by_cases s23:shp k=2∨shp k=3
  · rw [wrT,if_neg s1,if_pos s23]
    have:=ms_len (q:=kwI k) hkw (ok_chk h0 s23) hw hn hd
    omega
  by_cases s7:shp k=7
  · rw [wrT,if_neg s1,if_neg s23,if_pos s7]
    have hlen:=l1 s7
    obtain ⟨a,rfl⟩:∃ a,ar=[a]:=by
      match ar,hlen with
      | [a],_=>exact ⟨a,rfl⟩
    have h1:=hkid a (by simp)
    have h2:(ndsL [a]).length=(nds a).length:=by simp [ndsL]
    have h3:(wrTs [a]).getD 0 []=wrT a:=by rw [wrTs];rfl
    rw [h3,h2]
    simp only [List.length_append,List.length_cons,List.length_nil]
    omega
  · rw [wrT,if_neg s1,if_neg s23,if_neg s7]
    have e456:shp k=4∨shp k=5∨shp k=6:=by
      have:=kwI_le k
      omega
    have hlen:=l2 e456
    obtain ⟨a,b,rfl⟩:∃ a b,ar=[a,b]:=by
      match ar,hlen with
      | [a,b],_=>exact ⟨a,b,rfl⟩
    have h1:=hkid a (by simp)
    have h2:=hkid b (by simp)
    have h3:(wrTs [a,b]).getD 0 []=wrT a:=by rw [wrTs];rfl
    have h4:(wrTs [a,b]).getD 1 []=wrT b:=by rw [wrTs,wrTs];rfl
    rw [h3,h4,ndsL_two]
    simp only [List.length_append,List.length_cons,List.length_nil]
    omega
theorem wr_short {t:RT} (h:ckE t=0) (hz:∀ s ∈ nds t,szN s∧szI s):(wrT t).length≤200000000:=by
  have h1:=wr_len t fun s hs=>⟨ck_nodes h s hs,(hz s hs).2⟩
  have h2:(nds t).length≤512:=by
    have hk:chkE t=0:=by
      unfold ckE at h
      by_cases q:chkE t=0
      · exact q
      · rw [if_pos q] at h;exact h
    unfold chkE at hk
    split at hk
    · exact absurd hk (by decide)
    · omega
  omega
theorem rpr_any (t:RT) (v:Value) (w:World) (hv:RV 0 w t v) (hz:∀ s ∈ nds t,szN s∧szI s) (he:Env w) :
    Calls Tryz.prog 7 #[v] w fun e w'=>PnQ t e∧Below w.heap.size w w' :=
  rprint_any t v w hv hz (fun h=>by have:=wr_short h hz;omega) he
end Go.Proofs.YtifapjammoahgaaGreatDoor.Ru
/- RULES: WHAT IS READ IS WRITTEN. Own work of the verifier. -/
set_option maxHeartbeats 2000000
namespace Go.Proofs.YtifapjammoahgaaGreatDoor.Ru
open Go.RowKit Me
theorem ps_at {T:List UInt8} {s:St} {k:Nat} (h:s.e=0):At T (ps s k) ((T.drop s.a).drop k):=by
  unfold ps
  rw [if_pos h]
  exact ⟨h,by rw [List.drop_drop]⟩
theorem mst1_back {T:List UInt8} {s:St} {c:UInt8} (h:(mst1 T s c).e=0):s.e=0∧∃ R,T.drop s.a=c::R∧At T (mst1 T s c) R:=by
  have h0:=mst1_e0 T s c h
  refine ⟨h0,?_⟩
  unfold mst1 at h ⊢
  by_cases q:La.preB (rst T s) [c]=true
  · rw [if_pos q]
    have q':=q
    unfold La.preB at q'
    have hr:rst T s=T.drop s.a:=by unfold rst;rw [if_pos h0]
    rw [hr,Bool.and_eq_true,decide_eq_true_eq] at q'
    obtain ⟨q1,q2⟩:=q'
    have q3:=eq_of_beq q2
    cases hd:T.drop s.a with
    | nil=>rw [hd] at q1;simp at q1
    | cons d R =>
      rw [hd] at q3
      have:d=c:=by simpa using q3
      subst this
      refine ⟨R,rfl,?_⟩
      have:=ps_at (T:=T) (k:=1) h0
      rw [hd] at this
      exact this
  · rw [if_neg q,ps_e] at h
    exact absurd h (fl_e _ _ _ (by decide))
theorem mst_back {T:List UInt8}:∀ (l:List UInt8) {s:St},(mst T l s).e=0→s.e=0∧∃ R,T.drop s.a=l++R∧At T (mst T l s) R
  | [],s,h=>⟨h,_,rfl,h,rfl⟩
  | c::l,s,h=>by
    obtain ⟨h1,R,h2,h3⟩:=mst_back l (s:=mst1 T s c) h
    obtain ⟨h4,R',h5,h6⟩:=mst1_back h1
    have:R'=l++R:=h6.r.symm.trans h2
    subst this
    exact ⟨h4,R,h5,h3⟩
theorem row_drop (p:UInt8→Bool) (X:List UInt8):X=X.takeWhile p++X.drop (X.takeWhile p).length:=by
  have h:=List.takeWhile_append_dropWhile (p:=p) (l:=X)
  have h2:X.drop (X.takeWhile p).length=X.dropWhile p:=by
    have:=congrArg (List.drop (X.takeWhile p).length) h
    rw [List.drop_left] at this
    exact this.symm
  rw [h2]
  exact h.symm
theorem fnd_back {sh:List Nat} {r:List UInt8} {i:Nat} (h:fndK sh r=some i):i < 22∧(kwA i).2=r∧sh.contains (kwA i).1=true:=by
  unfold fndK at h
  have h1:=List.find?_some h
  have h2:=List.mem_of_find?_eq_some h
  unfold hitK at h1
  rw [Bool.and_eq_true] at h1
  exact ⟨List.mem_range.1 h2,eq_of_beq h1.2,h1.1⟩
theorem nam_back {T:List UInt8} {s:St} {p:UInt8→Bool} {sh:List Nat} (h:(namF p sh T s).2.e=0):s.e=0∧(namF p sh T s).1 < 22∧sh.contains (kwA (namF p sh T s).1).1=true∧∃ R,T.drop s.a=(kwA (namF p sh T s).1).2++R∧At T (namF p sh T s).2 R:=by
  have h0:=namF_e0 p sh T s h
  have hr:rst T s=T.drop s.a:=by unfold rst;rw [if_pos h0]
  unfold namF at h ⊢
  cases hf:fndK sh (rowF p T s) with
  | none=>rw [hf] at h;exact absurd h (fl_e _ _ _ (by decide))
  | some i =>
    obtain ⟨h1,h2,h3⟩:=fnd_back hf
    dsimp only
    refine ⟨h0,h1,h3,_,?_,ps_at h0⟩
    rw [h2]
    unfold rowF
    rw [hr]
    exact row_drop p _
theorem cnt_back {T:List UInt8} {s:St} (h:(cntF T s).2.e=0):s.e=0∧(cntF T s).1 < 9223372036854775808∧∃ R,T.drop s.a=Lib.itoa ((cntF T s).1:Int)++R∧At T (cntF T s).2 R:=by
  have h0:=cntF_e0 T s h
  have hr:rst T s=T.drop s.a:=by unfold rst;rw [if_pos h0]
  unfold cntF at h ⊢
  cases hf:decN (rowF isDg T s) with
  | none=>rw [hf] at h;exact absurd h (fl_e _ _ _ (by decide))
  | some n =>
    dsimp only
    have h1:n < 9223372036854775808∧Lib.itoa (n:Int)=rowF isDg T s:=by
      unfold decN at hf
      split at hf
      · rename_i k
        obtain rfl:=Option.some.inj hf
        exact ⟨k.2.1,k.2.2⟩
      · cases hf
    refine ⟨h0,h1.1,_,?_,ps_at h0⟩
    rw [h1.2]
    unfold rowF
    rw [hr]
    exact row_drop isDg _
theorem ite_back {c:Prop} [Decidable c] {s:St} {e a:Nat} (he:e≠0) (h:(if c then s else fl s e a).e=0):c∧s.e=0:=by
  split at h
  · rename_i k;exact ⟨k,h⟩
  · exact absurd h (fl_e _ _ _ he)
theorem shr_back {T:List UInt8} {s:St} (h:(shrF T s).2.2.e=0):s.e=0∧shrB (shrF T s).1 (shrF T s).2.1=true∧(shrF T s).1 < 9223372036854775808∧(shrF T s).2.1 < 9223372036854775808∧∃ R,T.drop s.a=Lib.itoa ((shrF T s).1:Int)++[47]++Lib.itoa ((shrF T s).2.1:Int)++[44,32]++R∧At T (shrF T s).2.2 R:=by
  unfold shrF at h ⊢
  dsimp only at h ⊢
  obtain ⟨h1,R1,h2,h3⟩:=mst_back [44,32] h
  obtain ⟨k1,k2⟩:=ite_back (by decide) h1
  rw [if_pos k1] at h2 h3 ⊢
  obtain ⟨c1,c2,R3,c3,c4⟩:=cnt_back k2
  obtain ⟨m1,R2,m2,m3⟩:=mst_back [47] c1
  obtain ⟨d1,d2,R4,d3,d4⟩:=cnt_back m1
  refine ⟨d1,k1,d2,c2,R1,?_,h3⟩
  rw [d3,d4.r.symm.trans m2,m3.r.symm.trans c3,c4.r.symm.trans h2]
  simp only [List.append_assoc]
theorem win_back {T:List UInt8} {s:St} (h:(winF T s).2.e=0):s.e=0∧winB (winF T s).1=true∧(winF T s).1 < 9223372036854775808∧∃ R,T.drop s.a=Lib.itoa ((winF T s).1:Int)++R∧At T (winF T s).2 R:=by
  unfold winF at h ⊢
  dsimp only at h ⊢
  obtain ⟨k1,k2⟩:=ite_back (by decide) h
  rw [if_pos k1]
  obtain ⟨c1,c2,R,c3,c4⟩:=cnt_back k2
  exact ⟨c1,k1,c2,R,c3,c4⟩
theorem ser_back {T:List UInt8} {s:St} (h:(serF T s).2.2.e=0):s.e=0∧La.chkD ⟨1,(serF T s).1,[],(serF T s).2.1⟩=0∧∃ R,T.drop s.a=La.printT (serF T s).1 (serF T s).2.1++[44,32]++R∧At T (serF T s).2.2 R:=by
  have h0:=serF_e0 T s h
  have hr:rst T s=T.drop s.a:=by unfold rst;rw [if_pos h0]
  unfold serF at h ⊢
  dsimp only at h ⊢
  cases hp:La.parR ((rst T s).take (sLen (rst T s))) with
  | error q =>
    obtain ⟨z,k⟩:=q
    rw [hp] at h
    have h1:=mst_e0 _ _ _ h
    rw [ps_e] at h1
    refine absurd h1 (fl_e _ _ _ ?_)
    split
    · decide
    · assumption
  | ok q =>
    obtain ⟨nm,L⟩:=q
    rw [hp] at h
    dsimp only at h ⊢
    obtain ⟨p1,p2,p3,p4⟩:=La.par_read _ _ _ hp
    obtain ⟨-,R,m2,m3⟩:=mst_back [44,32] h
    have m4:=(ps_at (T:=T) (k:=sLen (rst T s)) h0).r.symm.trans m2
    refine ⟨h0,?_,R,?_,m3⟩
    · unfold La.chkD
      dsimp only
      rw [if_neg (by decide),if_neg (by rw [p2];decide),if_neg (by decide +kernel),if_neg (by omega)]
      exact p4
    · rw [p1,hr]
      rw [hr] at m4
      rw [List.append_assoc,← m4,List.take_append_drop]
structure Wrt (T:List UInt8) (s s':St) (t:RT):Prop where
  e:s.e=0
  w:T.drop s.a=wrT t++T.drop s'.a
  z:∀ x ∈ nds t,szN x∧szI x
theorem kw_shp {k:Nat} (h:k < 22):kwI (k:Int)=kwA k:=by
  unfold kwI
  rw [if_pos (by omega)]
  rfl
theorem has_in {l:List Nat} {a:Nat} (h:l.contains a=true):a ∈ l:=by simpa using h
theorem sz_node {k:Int} {x:Nat} {nm:List UInt8} {lb:List La.Lb} {w n d:Int} {ar:List RT} (hx:x < 18446744073709551616) (hd:La.DsS ⟨1,nm,[],lb⟩) (hi:szI (.mk k x nm lb w n d ar)) (har:∀ a ∈ ar,∀ y ∈ nds a,szN y∧szI y):∀ y ∈ nds (.mk k x nm lb w n d ar),szN y∧szI y:=by
  intro y hy
  rw [nds] at hy
  rcases List.mem_cons.1 hy with rfl | hy
  · exact ⟨⟨hx,hd⟩,hi⟩
  · have hL:∀ (l:List RT),(∀ a ∈ l,∀ y ∈ nds a,szN y∧szI y)→∀ y ∈ ndsL l,szN y∧szI y:=fun l=>by
      induction l with
      | nil=>intro _ y hy;simp [ndsL] at hy
      | cons a l ih =>
        intro h y hy
        rw [ndsL] at hy
        rcases List.mem_append.1 hy with q | q
        · exact h a List.mem_cons_self y q
        · exact ih (fun b hb=>h b (List.mem_cons_of_mem _ hb)) y q
    exact hL ar har y hy
theorem ds_nil:La.DsS ⟨1,[],[],[]⟩:=⟨by decide,by decide,fun a ha=>by cases ha⟩
theorem beg_rst {T:List UInt8} {s:St} (h:(beg s).e=0):s.e=0∧s.n≠512∧rst T (beg s)=T.drop s.a∧(beg s).a=s.a:=by
  obtain ⟨h0,h1⟩:=beg_e0 s h
  have ha:(beg s).a=s.a:=by
    unfold beg
    dsimp only
    rw [if_neg h1]
  refine ⟨h0,h1,?_,ha⟩
  unfold rst
  rw [if_pos h,ha]
theorem read_fwd (PR:List UInt8→Option Nat) (hPR:∀ l x,PR l=some x→x < 18446744073709551616∧Rl.pText x=l) (T:List UInt8) :
    ∀ (f:Nat),f≤512→∀ (s:St),Ok T s→Cf f s→(rulF PR T f s).2.e=0→Wrt T s (rulF PR T f s).2 (rulF PR T f s).1:=by
  intro f
  induction f with
  | zero =>
    intro _ s ho hc h
    exfalso
    have hm:=rul_ok (T:=T) PR 0 (by decide) s ho hc
    obtain ⟨h0,h1⟩:=hm.e0 h
    have:=hm.lo
    have:=(hc.a h0).2
    omega
  | succ f ih =>
    intro hf s ho hc h
    have hEq:rulF PR T (f+1) s=stpF PR (rulF PR T f) T s:=rfl
    rw [hEq] at h ⊢
    have HM:=rul_ok (T:=T) PR f (by omega)
    have hn:s.n≤1029:=by
      by_cases e:s.e=0
      · have:=(hc.a e).1;omega
      · exact hc.b e
    have hob:=ho.beg (by omega)
    have hbn:=beg_n s
    have hb:bgn (rst T (beg s))≠0:=fun k=>by
      rw [stp_0 k] at h
      exact absurd h (fl_e _ _ _ (by decide))
    have hbe:(beg s).e=0:=bgn_ne hb
    obtain ⟨h0,h1,hrs,hba⟩:=beg_rst (T:=T) hbe
    obtain ⟨c1,c2⟩:=hc.a h0
    have hcb:Cf f (beg s):=⟨fun _=>by rw [hbn];omega,fun k=>absurd hbe k⟩
    rcases bgn_le (rst T (beg s)) with k | k | k | k
    · exact absurd k hb
    · -- two
      rw [stp_1 k] at h ⊢
      unfold twoF at h ⊢
      dsimp only at h ⊢
      obtain ⟨s1,hs1⟩:∃ s1,s1=mst T [40] (beg s):=⟨_,rfl⟩
      rw [← hs1] at h ⊢
      have ho1:Ok T s1:=by rw [hs1];exact hob.mst _
      have hc1:Cf f s1:=by rw [hs1];exact hcb.mst _ (by omega)
      have hm1:=HM s1 ho1 hc1
      obtain ⟨s3,hs3⟩:∃ s3,s3=mst T [32] (rulF PR T f s1).2:=⟨_,rfl⟩
      rw [← hs3] at h ⊢
      have ho3:Ok T s3:=by rw [hs3];exact hm1.ok.mst _
      obtain ⟨s5,hs5⟩:∃ s5,s5=mst T [32] (namF isSg [4,5,6] T s3).2:=⟨_,rfl⟩
      rw [← hs5] at h ⊢
      have ho5:Ok T s5:=by rw [hs5];exact (ho3.namF _ _).mst _
      have hc5:Cf f s5:=by
        by_cases q:s1.e=0
        · rw [hs5,hs3];exact cf_next (by omega) hm1 q hc1 _ _
        · refine ⟨fun e=>?_,fun _=>?_⟩
          · rw [hs5] at e
            have e1:=namF_e0 _ _ _ _ (mst_e0 _ _ _ e)
            rw [hs3] at e1
            exact absurd ((hm1.e0 (mst_e0 _ _ _ e1)).1) q
          · rw [hs5,mst_n,namF_n,hs3,mst_n,hm1.up q,hs1,mst_n]
            omega
      obtain ⟨h7,R7,w7,a7⟩:=mst_back [41] h
      have Wb:=ih (by omega) s5 ho5 hc5 h7
      have e5:=Wb.e
      rw [hs5] at e5
      obtain ⟨e4,R5,w5,a5⟩:=mst_back [32] e5
      obtain ⟨e3,n1,n2,R4,w4,a4⟩:=nam_back e4
      have e3':=e3
      rw [hs3] at e3'
      obtain ⟨e2,R3,w3,a3⟩:=mst_back [32] e3'
      have Wa:=ih (by omega) s1 ho1 hc1 e2
      have e1:=Wa.e
      rw [hs1] at e1
      obtain ⟨-,R1,w1,a1⟩:=mst_back [40] e1
      have hk:=kw_shp n1
      have hsh:shp ((namF isSg [4,5,6] T s3).1:Int)=(kwA (namF isSg [4,5,6] T s3).1).1:=congrArg Prod.fst hk
      have h456:=has_in n2
      rw [← hsh] at h456
      have h456':shp ((namF isSg [4,5,6] T s3).1:Int)=4∨shp ((namF isSg [4,5,6] T s3).1:Int)=5∨shp ((namF isSg [4,5,6] T s3).1:Int)=6:=by simpa using h456
      refine ⟨h0,?_,sz_node (by decide) ds_nil ⟨by decide,by decide,by decide⟩ fun a ha=>?_⟩
      · rw [wrT,if_neg (by omega),if_neg (by omega),if_neg (by omega),hk]
        have q1:(wrTs [(rulF PR T f s1).1,(rulF PR T f s5).1]).getD 0 []=wrT (rulF PR T f s1).1:=by rw [wrTs];rfl
        have q2:(wrTs [(rulF PR T f s1).1,(rulF PR T f s5).1]).getD 1 []=wrT (rulF PR T f s5).1:=by rw [wrTs,wrTs];rfl
        rw [q1,q2]
        rw [hba] at w1
        rw [← hs1] at a1
        rw [← hs3] at a3
        rw [← hs5] at a5
        rw [w1,a1.r.symm.trans Wa.w,w3,a3.r.symm.trans w4,a4.r.symm.trans w5,a5.r.symm.trans Wb.w,w7,a7.r]
        simp only [List.append_assoc]
      · rcases List.mem_cons.1 ha with rfl | ha
        · exact Wa.z
        · rw [List.mem_singleton.1 ha]
          exact Wb.z
    · -- a number
      rw [stp_2 k] at h ⊢
      unfold numF at h ⊢
      cases hp:PR (rowF isNm T (beg s)) with
      | none=>rw [hp] at h;exact absurd h (fl_e _ _ _ (by decide))
      | some x =>
        obtain ⟨hx,ht⟩:=hPR _ _ hp
        dsimp only
        refine ⟨h0,?_,sz_node hx ds_nil ⟨by decide,by decide,by decide⟩ fun a ha=>by cases ha⟩
        rw [wrT,if_pos (show shp 1=1 from rfl),ht,(ps_at (T:=T) (k:=(rowF isNm T (beg s)).length) hbe).r,hba]
        unfold rowF
        rw [hrs]
        exact row_drop isNm _
    · -- a word
      rw [stp_3 k] at h ⊢
      unfold wrdF at h ⊢
      dsimp only at h ⊢
      by_cases q7:(kwA (namF isLt [2,3,7] T (beg s)).1).1=7
      · rw [if_pos q7] at h ⊢
        dsimp only at h ⊢
        obtain ⟨s1,hs1⟩:∃ s1,s1=mst T [40] (namF isLt [2,3,7] T (beg s)).2:=⟨_,rfl⟩
        rw [← hs1] at h ⊢
        have ho1:Ok T s1:=by rw [hs1];exact (hob.namF _ _).mst _
        have hc1:Cf f s1:=⟨fun _=>by rw [hs1,mst_n,namF_n,hbn];omega,fun _=>by rw [hs1,mst_n,namF_n,hbn];omega⟩
        obtain ⟨h7,R7,w7,a7⟩:=mst_back [41] h
        have Wa:=ih (by omega) s1 ho1 hc1 h7
        have e1:=Wa.e
        rw [hs1] at e1
        obtain ⟨e2,R1,w1,a1⟩:=mst_back [40] e1
        obtain ⟨-,n1,n2,R2,w2,a2⟩:=nam_back e2
        have hk:=kw_shp n1
        have hsh:shp ((namF isLt [2,3,7] T (beg s)).1:Int)=7:=(congrArg Prod.fst hk).trans q7
        refine ⟨h0,?_,sz_node (by decide) ds_nil ⟨by decide,by decide,by decide⟩ fun a ha=>?_⟩
        · rw [wrT,if_neg (by omega),if_neg (by omega),if_pos hsh,hk]
          have q1:(wrTs [(rulF PR T f s1).1]).getD 0 []=wrT (rulF PR T f s1).1:=by rw [wrTs];rfl
          rw [q1]
          rw [hba] at w2
          rw [← hs1] at a1
          rw [w2,a2.r.symm.trans w1,a1.r.symm.trans Wa.w,w7,a7.r]
          simp only [List.append_assoc]
        · rw [List.mem_singleton.1 ha]
          exact Wa.z
      · rw [if_neg q7] at h ⊢
        dsimp only at h ⊢
        obtain ⟨s1,hs1⟩:∃ s1,s1=mst T [40] (namF isLt [2,3,7] T (beg s)).2:=⟨_,rfl⟩
        rw [← hs1] at h ⊢
        obtain ⟨q,hq⟩:∃ q,q=(if (kwA (namF isLt [2,3,7] T (beg s)).1).1=3 then shrF T s1 else (0,0,s1)):=⟨_,rfl⟩
        rw [← hq] at h ⊢
        obtain ⟨h7,R7,w7,a7⟩:=mst_back [41] h
        obtain ⟨e6,b6,l6,R6,w6,a6⟩:=win_back h7
        obtain ⟨e5,b5,R5,w5,a5⟩:=ser_back e6
        obtain ⟨u1,u2,u3,u4⟩:=chkD_len b5
        have hds:La.DsS ⟨1,(serF T q.2.2).1,[],(serF T q.2.2).2.1⟩:=⟨by show (serF T q.2.2).1.length≤_;omega,Nat.zero_le _,fun a ha=>by have:=u3 a ha;omega⟩
        have hsr:∃ S,T.drop s1.a=S++T.drop q.2.2.a∧s1.e=0∧q.1 < 9223372036854775808∧q.2.1 < 9223372036854775808∧S=(if (kwA (namF isLt [2,3,7] T (beg s)).1).1=3 then Lib.itoa (q.1:Int)++[47]++Lib.itoa (q.2.1:Int)++[44,32] else []):=by
          by_cases q3:(kwA (namF isLt [2,3,7] T (beg s)).1).1=3
          · rw [if_pos q3] at hq
            rw [hq] at e5 ⊢
            obtain ⟨v1,-,v3,v4,R,v5,v6⟩:=shr_back e5
            exact ⟨_,by rw [v6.r];exact v5,v1,v3,v4,by rw [if_pos q3]⟩
          · rw [if_neg q3] at hq
            subst hq
            exact ⟨[],rfl,e5,by show (0:Nat) < _;omega,by show (0:Nat) < _;omega,by rw [if_neg q3]⟩
        obtain ⟨S,x1,x2,x3,x4,x5⟩:=hsr
        have x2':=x2
        rw [hs1] at x2'
        obtain ⟨e2,R1,w1,a1⟩:=mst_back [40] x2'
        obtain ⟨-,n1,n2,R2,w2,a2⟩:=nam_back e2
        have hk:=kw_shp n1
        have hsh:shp ((namF isLt [2,3,7] T (beg s)).1:Int)=(kwA (namF isLt [2,3,7] T (beg s)).1).1:=congrArg Prod.fst hk
        have h23:=has_in n2
        rw [← hsh] at h23
        have h23':shp ((namF isLt [2,3,7] T (beg s)).1:Int)=2∨shp ((namF isLt [2,3,7] T (beg s)).1:Int)=3∨shp ((namF isLt [2,3,7] T (beg s)).1:Int)=7:=by simpa using h23
        refine ⟨h0,?_,sz_node (by decide) hds ⟨⟨by omega,by omega⟩,⟨by omega,by omega⟩,by omega,by omega⟩ fun a ha=>by cases ha⟩
        rw [wrT,if_neg (by omega),if_pos (by omega),hk]
        unfold msT
        rw [← x5]
        rw [hba] at w2
        rw [← hs1] at a1
        rw [w2,a2.r.symm.trans w1,a1.r.symm.trans x1,w5,a5.r.symm.trans w6,a6.r.symm.trans w7,a7.r]
        simp only [List.append_assoc]
theorem whole_fwd (PR:List UInt8→Option Nat) (hPR:∀ l x,PR l=some x→x < 18446744073709551616∧Rl.pText x=l) (T:List UInt8) (hT:T.length≤65536) (h:(whlF PR T ⟨0,0,0⟩).2.e=0) :
    wrT (whlF PR T ⟨0,0,0⟩).1=T∧∀ x ∈ nds (whlF PR T ⟨0,0,0⟩).1,szN x∧szI x:=by
  unfold whlF at h ⊢
  dsimp only at h ⊢
  obtain ⟨h1,h2⟩:=ite_back (by decide) h
  have W:=read_fwd PR hPR T 512 (by decide) ⟨0,0,0⟩ ⟨Nat.zero_le _,by decide,hT⟩ cf0 h2
  refine ⟨?_,W.z⟩
  have hw:=W.w
  unfold rst at h1
  rw [if_pos h2] at h1
  rw [h1,List.append_nil] at hw
  exact hw.symm
end Go.Proofs.YtifapjammoahgaaGreatDoor.Ru
/- RULES: the two texts that the law's awake reads. Own work of the verifier. -/
namespace Go.Proofs.YtifapjammoahgaaGreatDoor.Ru
open Go.RowKit Go.Sort Me
def dPR (l:List UInt8):Option Nat:=if l=[49] then some 4607182418800017408 else none
theorem dPr_at (u:World) (h:Rl.Glob2 u):PrAt dPR u [49]:=by
  intro W hb
  refine (Rl.dreal_1 W (h.below hb)).mono ?_
  rintro e w' ⟨rfl,hb⟩
  exact ⟨Or.inl ⟨_,by unfold dPR;rw [if_pos rfl],rfl⟩,hb⟩
def hitL (PR:List UInt8→Option Nat) (T:List UInt8):Nat→St→List St
  | 0,s=>match bgn (rst T (beg s)) with
    | 2=>[beg s]
    | _=>[]
  | f+1,s=>match bgn (rst T (beg s)) with
    | 1=>hitL PR T f (mst T [40] (beg s))++hitL PR T f (mst T [32] (namF isSg [4,5,6] T (mst T [32] (rulF PR T f (mst T [40] (beg s))).2)).2)
    | 2=>[beg s]
    | 3=>if (kwA (namF isLt [2,3,7] T (beg s)).1).1=7 then hitL PR T f (mst T [40] (namF isLt [2,3,7] T (beg s)).2) else []
    | _=>[]
theorem hit_mem {PR:List UInt8→Option Nat} {T:List UInt8}:∀ {f:Nat} {s z:St},hitF PR T f s z→z ∈ hitL PR T f s
  | 0,s,z,h=>by
    obtain ⟨h1,rfl⟩:=h
    unfold hitL
    rw [h1]
    exact List.mem_singleton.2 rfl
  | f+1,s,z,h=>by
    unfold hitL
    rcases h with ⟨h1,rfl⟩ | ⟨s',⟨h1,rfl | rfl⟩ | ⟨h1,h2,rfl⟩,h3⟩
    · rw [h1]
      exact List.mem_singleton.2 rfl
    · rw [h1]
      exact List.mem_append.2 (Or.inl (hit_mem h3))
    · rw [h1]
      exact List.mem_append.2 (Or.inr (hit_mem h3))
    · rw [h1]
      show z ∈ (if (kwA (namF isLt [2,3,7] T (beg s)).1).1=7 then hitL PR T f (mst T [40] (namF isLt [2,3,7] T (beg s)).2) else [])
      rw [if_pos h2]
      exact hit_mem h3
abbrev tx1:List UInt8:=[40,49,32,60,32,116,111,116,97,108,40,97,44,32,53,41,41]
abbrev tx2:List UInt8:=[49,32,43,32,50]
abbrev rl1:RT:=.mk 13 0 [] [] 0 0 0 [.mk 1 4607182418800017408 [] [] 0 0 0 [],.mk 2 0 [97] [] 5 0 0 []]
theorem whl1:whlF dPR tx1 ⟨0,0,0⟩=(rl1,⟨17,0,3⟩):=by kernel_rfl
theorem whl2:(whlF dPR tx2 ⟨0,0,0⟩).2=⟨1,5,1⟩:=by kernel_rfl
theorem hits1:(hitL dPR tx1 512 ⟨0,0,0⟩).map (rowF isNm tx1)=[[49]]:=by kernel_rfl
theorem hits2:(hitL dPR tx2 512 ⟨0,0,0⟩).map (rowF isNm tx2)=[[49]]:=by kernel_rfl
theorem dnum_of {T:List UInt8} (h:(hitL dPR T 512 ⟨0,0,0⟩).map (rowF isNm T)=[[49]]) {z:St} (hz:hitF dPR T 512 ⟨0,0,0⟩ z):rowF isNm T z=[49]:=by
  have:=List.mem_map_of_mem (f:=rowF isNm T) (hit_mem hz)
  rw [h] at this
  exact List.mem_singleton.1 this
theorem ck1:ckE rl1=0:=by decide +kernel
theorem sz1:∀ s ∈ nds rl1,szN s∧szI s:=by
  intro s hs
  have:s=rl1∨s=.mk 1 4607182418800017408 [] [] 0 0 0 []∨s=.mk 2 0 [97] [] 5 0 0 []:=by simpa [nds,ndsL] using hs
  rcases this with rfl | rfl | rfl
  all_goals exact ⟨⟨by decide,by decide,by decide,fun a ha=>by cases ha⟩,by decide,by decide,by decide⟩
theorem wr1:wrT rl1=tx1:=by
  simp only [wrT,wrTs,Rl.dtext_1]
  kernel_rfl
theorem parse1 (w:World) (he:Env w):Calls Tryz.prog 5 #[.string ⟨#[40,49,32,60,32,116,111,116,97,108,40,97,44,32,53,41,41]⟩] w fun e w'=>(∃ v,e=.returned (.tuple #[v,.int .i64 0,.int .i64 0])∧RV 0 w' rl1 v)∧Below w.heap.size w w':=by
  have:=parse_any dPR (fun t=>(ckE t).toNat) tx1 (by decide) w he (fun _ u hb z hz=>by rw [dnum_of hits1 hz];exact dPr_at u (he.below hb).gl) (fun _ _=>by
    rw [whl1]
    exact ckAt_of rl1 w (fun s hs=>(sz1 s hs).1) he.kd)
  refine this.mono ?_
  rintro e w' ⟨hq,hb⟩
  refine ⟨?_,hb⟩
  unfold PsQ at hq
  rw [whl1] at hq
  rcases hq with ⟨z,a,hz,-,⟨h,-⟩ | ⟨-,h,-⟩ | ⟨-,-,h,-⟩⟩ | ⟨-,-,-,v,h1,h2⟩
  · exact absurd h (by decide)
  · exact absurd h hz
  · dsimp only at h;rw [ck1] at h;exact absurd h hz
  · exact ⟨v,h1,h2.mono (Nat.zero_le _)⟩
theorem parse2 (w:World) (he:Env w):Calls Tryz.prog 5 #[.string ⟨#[49,32,43,32,50]⟩] w fun e w'=>e=.returned (.tuple #[rx 0 0 [] (.slice none 0 0) 0 0 0 (.slice none 0 0),.int .i64 5,.int .i64 1])∧Below w.heap.size w w':=by
  have:=parse_any dPR (fun t=>(ckE t).toNat) tx2 (by decide) w he (fun _ u hb z hz=>by rw [dnum_of hits2 hz];exact dPr_at u (he.below hb).gl) (fun _ h=>by
    rw [whl2] at h
    cases h)
  refine this.mono ?_
  rintro e w' ⟨hq,hb⟩
  refine ⟨?_,hb⟩
  unfold PsQ at hq
  rw [whl2] at hq
  rcases hq with ⟨z,a,hz,h1,⟨h,-⟩ | ⟨-,h,h'⟩ | ⟨-,h,-⟩⟩ | ⟨-,h,-⟩
  · exact absurd h (by decide)
  · rw [h1,h,h'];rfl
  · cases h
  · cases h
theorem print1 (v:Value) (w:World) (hv:RV 0 w rl1 v) (he:Env w):Calls Tryz.prog 7 #[v] w fun e w'=>e=.returned (.tuple #[.string ⟨#[40,49,32,60,32,116,111,116,97,108,40,97,44,32,53,41,41]⟩,.int .i64 0])∧Below w.heap.size w w':=by
  refine (rprint_any rl1 v w hv sz1 (fun _=>by rw [wr1];decide) he).mono ?_
  rintro e w' ⟨hq,hb⟩
  refine ⟨?_,hb⟩
  unfold PnQ at hq
  rw [wr1,ck1] at hq
  rcases hq with ⟨h,-⟩ | ⟨-,h,-⟩ | ⟨-,-,h⟩
  · exact absurd rfl h
  · exact absurd h (by decide)
  · exact h
theorem type1 (v:Value) (w:World) (hv:RV 0 w rl1 v) (h:Kd w):Calls Tryz.prog 9 #[v] w fun e w'=>e=.returned (.tuple #[.bool true,.int .i64 0])∧Below w.heap.size w w':=by
  refine (type_any rl1 v w hv (fun s hs=>(sz1 s hs).1) h).mono ?_
  rintro e w' ⟨rfl,hb⟩
  refine ⟨?_,hb⟩
  rw [ck1,if_pos rfl]
  rfl
end Go.Proofs.YtifapjammoahgaaGreatDoor.Ru
/- RULES: awake; RulesNames' walk. Own work of the verifier. -/
set_option maxRecDepth 100000
set_option maxHeartbeats 4000000
namespace Go.Proofs.YtifapjammoahgaaGreatDoor.Ru
open Go.RowKit Go.Sort Me
theorem rnew2 (w:World):Calls Tryz.prog 10 #[.int .i64 2] w fun e w'=>e=.returned (.tuple #[.pointer (some ⟨w.heap.size,0,none⟩),.int .i64 0])∧Below w.heap.size w w':=by
  go_enter Tryz.func10,Tryz.ntmps10
  go_wp2
  simp [bodyPost,results,Tryz.results10,go_sem]
  exact bel1 _ _
theorem two_two:(FloatKind.f64.format.order 4611686018427387904 4611686018427387904 == some .eq)=true:=by decide +kernel
theorem awake_any (w:World) (he:Env w):Calls Tryz.prog 4 #[] w fun e w'=>e=.returned (.bool true)∧Below w.heap.size w w':=by
  have HP1:Hid (∀ W,Below w.heap.size w W→Calls Tryz.prog 5 #[.string ⟨#[40,49,32,60,32,116,111,116,97,108,40,97,44,32,53,41,41]⟩] W fun e w'=>(∃ v,e=.returned (.tuple #[v,.int .i64 0,.int .i64 0])∧RV 0 w' rl1 v)∧Below W.heap.size W w'):=fun W hb=>parse1 W (he.below hb)
  have HP2:Hid (∀ W,Below w.heap.size w W→Calls Tryz.prog 5 #[.string ⟨#[49,32,43,32,50]⟩] W fun e w'=>e=.returned (.tuple #[rx 0 0 [] (.slice none 0 0) 0 0 0 (.slice none 0 0),.int .i64 5,.int .i64 1])∧Below W.heap.size W w'):=fun W hb=>parse2 W (he.below hb)
  have HPn:Hid (∀ v W,Below w.heap.size w W→RV 0 W rl1 v→Calls Tryz.prog 7 #[v] W fun e w'=>e=.returned (.tuple #[.string ⟨#[40,49,32,60,32,116,111,116,97,108,40,97,44,32,53,41,41]⟩,.int .i64 0])∧Below W.heap.size W w'):=fun v W hb hv=>print1 v W hv (he.below hb)
  have HTy:Hid (∀ v W,Below w.heap.size w W→RV 0 W rl1 v→Calls Tryz.prog 9 #[v] W fun e w'=>e=.returned (.tuple #[.bool true,.int .i64 0])∧Below W.heap.size W w'):=fun v W hb hv=>type1 v W hv (he.kd.below hb)
  have HNw:Hid (∀ W:World,Calls Tryz.prog 10 #[.int .i64 2] W fun e w'=>e=.returned (.tuple #[.pointer (some ⟨W.heap.size,0,none⟩),.int .i64 0])∧Below W.heap.size W w'):=fun W=>rnew2 W
  have HEv:Hid (∀ p W,Below w.heap.size w W→Calls Tryz.prog 11 #[.pointer p,.int .i64 0,rx 1 4611686018427387904 [] (.slice none 0 0) 0 0 0 (.slice none 0 0)] W fun e w'=>e=.returned (.tuple #[.agg #[.bool false,.bool false,.float .f64 4611686018427387904],.int .i64 0])∧Below W.heap.size W w'):=fun p W hb=>eval_two _ ⟨p,rfl⟩ W (he.kd.below hb)
  have hf2:=two_two
  have sF:=store_f
  clear he
  go_enter Tryz.func4,Tryz.ntmps4
  go_wp2_with fail
  refine Calls.mono (HP1.out _ (Below.refl _ _)) ?_
  rintro e w1 ⟨⟨v,rfl,hv⟩,hb1⟩
  unfold RV at hv
  obtain ⟨lv,ao,b,o,cap,rfl,hl,hao,hc1,hc2,hrs⟩:=hv
  obtain ⟨la,lb0,lo,lc,rfl,hlr⟩:=hl
  have hv1:RV 0 w1 rl1 (rx 13 0 [] (.slice la 0 lc) 0 0 0 (.slice ao 2 cap)):=by
    unfold RV
    exact ⟨_,ao,b,o,cap,rfl,⟨la,lb0,lo,lc,rfl,hlr⟩,hao,hc1,hc2,hrs⟩
  have hX:=bel1 w1 (.cells (rc 13 0 [] (.slice la 0 lc) 0 0 0 (.slice ao 2 cap)) 27)
  have hn:=new_1 w1 (.cells (rc 13 0 [] (.slice la 0 lc) 0 0 0 (.slice ao 2 cap)) 27)
  have HV:=hid_of (hv1.below hX)
  have HB:=hid_of (bt hb1 hX)
  have HN:=hid_of hn
  clear hv1 hX hn hb1 hao hc1 hc2 hrs hlr HP1
  go_upto_region 2 with fail
  generalize w1.alloc (.cells (rc 13 0 [] (.slice la 0 lc) 0 0 0 (.slice ao 2 cap)) 27)=W2 at *
  generalize w1.heap.size=gx at *
  go_wp2_with fail
  refine Calls.mono (HP2.out _ HB.out) ?_
  rintro e w3 ⟨rfl,hb3⟩
  have hX:=hb3.trans ((bel1 w3 (.cells (rc 0 0 [] (.slice none 0 0) 0 0 0 (.slice none 0 0)) 27)).mono hb3.size)
  have HV3:=hid_of (HV.out.below hX)
  have HB3:=hid_of (bt HB.out hX)
  have HN3:=hid_of ((hX.block _ (Array.getElem?_eq_some_iff.1 HN.out).1).trans HN.out)
  clear HV HB HN hX hb3 HP2
  go_upto_region 3 with fail
  generalize w3.alloc (.cells (rc 0 0 [] (.slice none 0 0) 0 0 0 (.slice none 0 0)) 27)=W4 at *
  generalize w3.heap.size=gy at *
  obtain ⟨y0,y1,y2,y3,y4,y5,y6,y7⟩:=eight HN3.out
  go_wp2_with fail
  refine Calls.mono (HPn.out _ _ HB3.out HV3.out) ?_
  rintro e w5 ⟨rfl,hb5⟩
  have HV5:=hid_of (HV3.out.below hb5)
  have HB5:=hid_of (bt HB3.out hb5)
  have HN5:=hid_of ((hb5.block _ (Array.getElem?_eq_some_iff.1 HN3.out).1).trans HN3.out)
  clear HV3 HB3 HN3 hb5 HPn y0 y1 y2 y3 y4 y5 y6 y7
  go_upto_region 4 with fail
  obtain ⟨y0,y1,y2,y3,y4,y5,y6,y7⟩:=eight HN5.out
  go_wp2_with fail
  refine Calls.mono (HTy.out _ _ HB5.out HV5.out) ?_
  rintro e w6 ⟨rfl,hb6⟩
  have HB6:=hid_of (bt HB5.out hb6)
  have HN6:=hid_of ((hb6.block _ (Array.getElem?_eq_some_iff.1 HN5.out).1).trans HN5.out)
  clear HV5 HB5 HN5 hb6 HTy y0 y1 y2 y3 y4 y5 y6 y7
  go_upto_region 5 with fail
  go_wp2_with fail
  refine Calls.mono (HNw.out _) ?_
  rintro e w7 ⟨rfl,hb7⟩
  have HB7:=hid_of (bt HB6.out hb7)
  have HN7:=hid_of ((hb7.block _ (Array.getElem?_eq_some_iff.1 HN6.out).1).trans HN6.out)
  clear HB6 HN6 hb7 HNw
  generalize w6.heap.size=gr at *
  go_upto_region 6 with fail
  go_wp2_with fail
  refine Calls.mono (HEv.out _ _ HB7.out) ?_
  rintro e w8 ⟨rfl,hb8⟩
  have hX:=hb8.trans ((bel1 w8 (.cells #[.bool false,.bool false,.float .f64 4611686018427387904] 42)).mono hb8.size)
  have HB9:=hid_of (bt HB7.out hX)
  have hn9:=(hX.block _ (Array.getElem?_eq_some_iff.1 HN7.out).1).trans HN7.out
  obtain ⟨⟨a0,a1,a2⟩,-⟩:=three (new_1 w8 (.cells #[.bool false,.bool false,.float .f64 4611686018427387904] 42))
  obtain ⟨y0,-⟩:=eight hn9
  clear HB7 HN7 hb8 hX hn9 HEv
  go_upto_region 9 with fail
  generalize w8.alloc (.cells #[.bool false,.bool false,.float .f64 4611686018427387904] 42)=W9 at *
  generalize w8.heap.size=ga at *
  go_wp2_with fail
  go_ret
  exact ⟨rfl,HB9.out⟩
end Go.Proofs.YtifapjammoahgaaGreatDoor.Ru
