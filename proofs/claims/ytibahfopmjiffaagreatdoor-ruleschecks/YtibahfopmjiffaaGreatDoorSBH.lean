/- RULES: the law's left, small. Own work of the verifier. -/
import Derived.Test.YtibahfopmjiffaaGreatDoorSBG
import Derived.Test.YtibahfopmjiffaaGreatDoorSAE
import Derived.Test.YtibahfopmjiffaaGreatDoorSAB
set_option maxRecDepth 100000
set_option maxHeartbeats 4000000
namespace Go.Proofs.YtibahfopmjiffaaGreatDoor.Ru
open Go.RowKit Me
mutual
def lfF:RT→Int→Int
  | .mk _ _ _ lb _ _ _ ar,n=>lfL ar (n - (1+(lb.length:Int)))
def lfL:List RT→Int→Int
  | [],n=>n
  | a::ar,n=>if 0≤n then lfL ar (lfF a n) else n
end
theorem lfL_le':∀ (ar:List RT) (n:Int),(∀ a ∈ ar,∀ n,lfF a n≤n)→lfL ar n≤n
  | [],n,_=>by unfold lfL;omega
  | a::ar,n,h=>by
    unfold lfL
    split
    · have:=lfL_le' ar (lfF a n) (fun b hb=>h b (List.mem_cons_of_mem _ hb))
      have:=h a List.mem_cons_self n
      omega
    · omega
theorem lfF_le:∀ (t:RT) (n:Int),lfF t n≤n:=by
  refine RT.ind ?_
  intro k x nm lb w n d ar ih m
  unfold lfF
  have:=lfL_le' ar (m - (1+(lb.length:Int))) (fun a ha n=>ih a ha n)
  omega
def szB:RT→Prop
  | .mk _ _ _ lb _ _ _ _=>lb.length≤140737488355328
theorem lfL_ge':∀ (ar:List RT) (n:Int),(∀ a ∈ ar,∀ n:Int,0≤n→-140737488355330≤lfF a n)→-140737488355330≤n→-140737488355330≤lfL ar n
  | [],n,_,h=>by unfold lfL;exact h
  | a::ar,n,h,hn=>by
    unfold lfL
    split
    · rename_i k
      exact lfL_ge' ar _ (fun b hb=>h b (List.mem_cons_of_mem _ hb)) (h a List.mem_cons_self n k)
    · exact hn
theorem lfF_ge:∀ (t:RT),(∀ s ∈ nds t,szB s)→∀ (n:Int),0≤n→-140737488355330≤lfF t n:=by
  refine RT.ind ?_
  intro k x nm lb w n d ar ih hz m hm
  have h0:lb.length≤140737488355328:=hz _ (nds_self _)
  unfold lfF
  exact lfL_ge' ar _ (fun a ha n hn=>ih a ha (fun s hs=>hz s (by
    unfold nds
    exact List.mem_cons_of_mem _ (ndsL_mem ha hs))) n hn) (by omega)
theorem lfL_drop (ar:List RT) (i:Nat) (h:i < ar.length) (n:Int) (hn:0≤n):lfL (ar.drop i) n=lfL (ar.drop (i+1)) (lfF ar[i] n):=by
  rw [List.drop_eq_getElem_cons h,lfL,if_pos hn]
theorem lfL_neg (ar:List RT) (n:Int) (hn:¬ 0≤n):lfL ar n=n:=by
  cases ar with
  | nil=>rw [lfL]
  | cons a ar=>rw [lfL,if_neg hn]
theorem left_any:∀ (t:RT) (v:Value) (w:World) (m:Int),RV 0 w t v→(∀ s ∈ nds t,szB s)→0≤m→m≤32768 →
    Calls Tryz.prog 17 #[v,.int .i64 m] w fun e w'=>e=.returned (.int .i64 (lfF t m))∧Below w.heap.size w w':=by
  refine RT.ind ?_
  intro k x nm lb wi n d ar ih v w m hv hz hm0 hm1
  have hlb:lb.length≤140737488355328:=hz _ (nds_self _)
  have hch:∀ i (hi:i < ar.length),∀ s ∈ nds ar[i],szB s:=fun i hi s hs=>hz s (by
    unfold nds
    exact List.mem_cons_of_mem _ (ndsL_mem (List.getElem_mem hi) hs))
  unfold RV at hv
  obtain ⟨lv,qa,ab,ao,qc,rfl,⟨la,b1,o1,lc,rfl,hl1,hl2,hl3,hl4⟩,haa,hac,hac2,hrs⟩:=hv
  obtain ⟨W0,hW0⟩:∃ W0,W0=w.alloc (.cells (rc k x nm (.slice la lb.length lc) wi n d (.slice qa ar.length qc)) 26):=⟨_,rfl⟩
  have hb0:Below w.heap.size w W0:=by rw [hW0];exact bel1 w _
  have hn0:W0.heap[w.heap.size]? =some (.cells (rc k x nm (.slice la lb.length lc) wi n d (.slice qa ar.length qc)) 26):=by rw [hW0];exact new_1 w _
  have HC:Hid (∀ i (hi:i < ar.length),∃ c:Array Value,IsRc c∧(∀ W,Below w.heap.size w W→∀ j (hj:j < c.size),W.cell? ⟨ab,ao+i*8+j,none⟩=some c[j])∧(∀ W (m:Int),Below w.heap.size w W→0≤m→m≤32768→Calls Tryz.prog 17 #[.agg c,.int .i64 m] W fun e w'=>e=.returned (.int .i64 (lfF ar[i] m))∧Below W.heap.size W w')):=fun i hi=>by
    obtain ⟨c,h1,h2,h3⟩:=hrs.at_ i hi
    refine ⟨c,?_,fun W hb j hj=>cellH' hb (h3 j hj),fun W m hb q0 q1=>ih ar[i] (List.getElem_mem hi) (.agg c) W m (h1.below hb) (hch i hi) q0 q1⟩
    obtain ⟨k',x',nm',la',ln',lc',w',n',d',aa',an',ac',e⟩:=h1.form
    exact ⟨k',x',nm',la',ln',lc',w',n',d',aa',an',ac',by cases e;rfl⟩
  have HLo:Hid (∀ i (hi:i < ar.length) (m:Int),0≤m→lfF ar[i] m≤m∧-140737488355330≤lfF ar[i] m):=fun i hi m q=>⟨lfF_le _ _,lfF_ge _ (hch i hi) m q⟩
  obtain ⟨m1,hm1'⟩:∃ m1,m1=m - (1+(lb.length:Int)):=⟨_,rfl⟩
  obtain ⟨Z,hZ⟩:∃ Z,Z=lfF (.mk k x nm lb wi n d ar) m:=⟨_,rfl⟩
  have HZ0:Hid (Z=lfL (ar.drop 0) m1):=by show _=_;rw [hZ,List.drop_zero,lfF,hm1']
  rw [← hZ]
  have w1:IntKind.i64.wrap (1+(lb.length:Int))=1+(lb.length:Int):=by rw [IntKind.wrap_i64];omega
  have w2:IntKind.i64.wrap (m - (1+(lb.length:Int)))=m1:=by rw [IntKind.wrap_i64];omega
  have hm1b:m1≤32768∧-140737488355330≤m1:=by omega
  have HB0:=hid_of hb0
  have HN0:=hid_of hn0
  have HW0:=hid_of hW0
  have HA:=hid_of haa
  have hal:(ar.length:Int)≤9223372036854775807:=by omega
  have Hm1:=hid_of hm1b
  have sF:=store_f
  clear ih hz hch hl1 hl2 hl3 hl4 haa hac2 hrs hW0 hb0 hn0 hZ hm1' hm1b hlb
  go_enter Tryz.func17,Tryz.ntmps17
  go_upto_region 1 with fail
  rw [← HW0.out]
  obtain ⟨y0,y1,y2,y3,y4,y5,y6,y7⟩:=eight HN0.out
  go_upto_region 2 with fail
  clear y0 y1 y2 y3 y4 y5 y6 y7 w1 w2 hm0 hm1
  go_wp2_with fail
  go_loopw [1,5] (fun q a W=>∃ (i:Nat) (z:Int),i≤ar.length∧q=.int .i64 z∧a=.int .i64 (i:Int)∧Hid (z≤32768∧-140737488355330≤z)∧Hid (Below w.heap.size w W)∧Hid (W.heap[w.heap.size]? =some (.cells (rc k x nm (.slice la lb.length lc) wi n d (.slice qa ar.length qc)) 26))∧Hid (Z=lfL (ar.drop i) z)) (fun _ a _=>ar.length - (intOf a).toNat)
  case atStart=>exact ⟨0,m1,by omega,rfl,rfl,Hm1,HB0,HN0,HZ0⟩
  case round =>
    clear HB0 HN0 HW0 HZ0 Hm1
    obtain ⟨i,z,hi,rfl,rfl,Hz,HB,HN,HZ⟩:=hrel
    obtain ⟨y0,y1,y2,y3,y4,y5,y6,y7⟩:=eight HN.out
    clear y0 y1 y2 y3 y4 y5 y6
    by_cases hlt:i < ar.length
    · have hlt':(i:Int) < (ar.length:Int):=by omega
      by_cases hz0:0≤z
      · obtain ⟨rfl,-⟩:=HA.out (fun e=>by rw [e] at hlt;simp at hlt)
        obtain ⟨c,⟨k',x',nm',la',ln',lc',w',n',d',aa',an',ac',rfl⟩,hcs,hcall⟩:=HC.out i hlt
        obtain ⟨q1,q2⟩:=HLo.out i hlt z hz0
        have hz:=HZ.out
        rw [lfL_drop _ _ hlt z hz0] at hz
        have HZ1:=hid_of hz
        have D:La.HidC _ _ _ _ _:=hcall wr z HB.out hz0 Hz.out.1
        have hix:=index_rl ab ao ar.length qc i (i:Int) rfl hlt
        obtain ⟨p1,hp1⟩:∃ p,p=ao+i*8:=⟨_,rfl⟩
        rw [← hp1] at hix hcs
        clear hp1 hcall hz HZ HC HLo
        have cs:=hcs wr HB.out
        have x0:=cs 0 (by show 0 < 8;decide)
        have x1:=cs 1 (by show 1 < 8;decide)
        have x2:=cs 2 (by show 2 < 8;decide)
        have x3:=cs 3 (by show 3 < 8;decide)
        have x4:=cs 4 (by show 4 < 8;decide)
        have x5:=cs 5 (by show 5 < 8;decide)
        have x6:=cs 6 (by show 6 < 8;decide)
        have x7:=cs 7 (by show 7 < 8;decide)
        try simp only [Nat.add_zero] at x0
        clear cs hcs
        have Hq:Hid (lfF ar[i] z≤32768∧-140737488355330≤lfF ar[i] z):=⟨by have:=Hz.out.1;omega,q2⟩
        clear q1 q2 Hz
        generalize lfF ar[i] z=z1 at *
        go_wp2_with fail
        refine Calls.mono D.out ?_
        rintro e w3 ⟨rfl,hb3⟩
        have HB3:=hid_of (bt HB.out hb3)
        have HN3:=hid_of ((hb3.block _ (Array.getElem?_eq_some_iff.1 HN.out).1).trans HN.out)
        clear D hb3 HB HN y7 x0 x1 x2 x3 x4 x5 x6 x7 hix
        go_wp2_with fail
        exact ⟨⟨i+1,z1,by omega,rfl,by go_num,Hq,HB3,HN3,HZ1⟩,by simp [intOf];omega⟩
      · have HE:Hid (Z=z):=by show _=_;rw [HZ.out,lfL_neg _ _ hz0]
        clear HZ HC HLo
        go_wp2_with fail
        go_ret
        exact ⟨congrArg (fun b:Int=>Ending.returned (.int .i64 b)) HE.out.symm,HB.out⟩
    · have hlt':¬ (i:Int) < (ar.length:Int):=by omega
      have HE:Hid (Z=z):=by show _=_;rw [HZ.out,List.drop_eq_nil_of_le (by omega),lfL]
      clear HZ HC HLo
      go_wp2_with fail
      go_ret
      exact ⟨congrArg (fun b:Int=>Ending.returned (.int .i64 b)) HE.out.symm,HB.out⟩
theorem small_any (t:RT) (v:Value) (w:World) (hv:RV 0 w t v) (hz:∀ s ∈ nds t,szB s) :
    Calls Tryz.prog 5 #[v] w fun e w'=>e=.returned (.bool (decide (0≤lfF t 32768)))∧Below w.heap.size w w':=by
  have HL:Hid (∀ W,Below w.heap.size w W→Calls Tryz.prog 17 #[v,.int .i64 32768] W fun e w'=>e=.returned (.int .i64 (lfF t 32768))∧Below W.heap.size W w'):=fun W hb=>left_any t v W 32768 (hv.below hb) hz (by decide) (by decide)
  obtain ⟨k,x,nm,la,ln,lc,wi,n,d,aa,an,ac,rfl⟩:=hv.form
  clear hv hz
  generalize lfF t 32768=z at *
  go_enter Tryz.func5,Tryz.ntmps5
  have hb0:=bel1 w (.cells (rc k x nm (.slice la ln lc) wi n d (.slice aa an ac)) 26)
  go_wp2_with fail
  refine Calls.mono (HL.out _ hb0) ?_
  rintro e w1 ⟨rfl,hb1⟩
  have HB1:=hid_of (bt hb0 hb1)
  clear hb0 hb1 HL
  go_wp2_with fail
  go_ret
  exact ⟨rfl,HB1.out⟩
end Go.Proofs.YtibahfopmjiffaaGreatDoor.Ru
/- RULES: THE DOCUMENT'S series, args, truth, Nodes. Own work of the verifier. -/
set_option maxRecDepth 100000
set_option maxHeartbeats 4000000
namespace Go.Proofs.YtibahfopmjiffaaGreatDoor.Ru
open Go.RowKit Me
def dSer (k:Int):Bool:=decide (2≤k) && decide (k≤8)
def dAr (k:Int):Int:=if k=21 then 1 else if 9≤k∧k≤20 then 2 else 0
def nmd (nm:List UInt8) (ln:Nat) (wi:Int):Bool:=(nm != []) || decide (0 < ln) || (wi != 0)
def dFld (k:Int) (x:Nat) (nm:List UInt8) (ln:Nat) (wi n d:Int) (al:Nat):Bool :=
  !(((al:Int) != dAr k) || (!dSer k && nmd nm ln wi) || ((k != 8) && ((n != 0) || (d != 0)))) && !((k != 1) && (Re.sg (Re.rk x) (Re.rk 0) != 0)) &&
    !(((k == 1) && !Re.finF x) || (dSer k && (decide (wi < 1) || decide (4611686018427387904 < wi)))) && ((k != 8) || (decide (1≤d) && decide (0≤n) && decide (n≤d)))
theorem dser_any (k:Int) (w:World):Calls Tryz.prog 38 #[.int .i64 k] w fun e w'=>e=.returned (.bool (dSer k))∧w'=w:=by
  unfold dSer
  by_cases h:2≤k
  · by_cases h2:k≤8
    · rw [decide_eq_true h,decide_eq_true h2]
      go_enter Tryz.func38,Tryz.ntmps38
      go_wp2_with fail
      go_ret
      exact ⟨rfl,rfl⟩
    · rw [decide_eq_true h,decide_eq_false h2]
      go_enter Tryz.func38,Tryz.ntmps38
      go_wp2_with fail
      go_ret
      exact ⟨rfl,rfl⟩
  · rw [decide_eq_false h]
    go_enter Tryz.func38,Tryz.ntmps38
    go_wp2_with fail
    go_ret
    exact ⟨rfl,rfl⟩
theorem dtruth_any (k:Int) (w:World):Calls Tryz.prog 20 #[.int .i64 k] w fun e w'=>e=.returned (.bool (decide (13≤k)))∧w'=w:=by
  go_enter Tryz.func20,Tryz.ntmps20
  go_wp2_with fail
  go_ret
  exact ⟨rfl,rfl⟩
theorem dargs_any (k:Int) (w:World):Calls Tryz.prog 62 #[.int .i64 k] w fun e w'=>e=.returned (.int .i64 (dAr k))∧w'=w:=by
  unfold dAr
  by_cases h:k=21
  · subst h
    rw [if_pos rfl]
    go_enter Tryz.func62,Tryz.ntmps62
    go_wp2_with fail
    go_ret
    exact ⟨rfl,rfl⟩
  · have h0:(k == 21)=false:=beq_eq_false_iff_ne.2 h
    rw [if_neg h]
    by_cases h1:9≤k
    · by_cases h2:k≤20
      · rw [if_pos ⟨h1,h2⟩]
        clear h
        go_enter Tryz.func62,Tryz.ntmps62
        go_wp2_with fail
        go_ret
        exact ⟨rfl,rfl⟩
      · rw [if_neg (fun q=>h2 q.2)]
        clear h
        go_enter Tryz.func62,Tryz.ntmps62
        go_wp2_with fail
        go_ret
        exact ⟨rfl,rfl⟩
    · rw [if_neg (fun q=>h1 q.1)]
      clear h
      go_enter Tryz.func62,Tryz.ntmps62
      go_wp2_with fail
      go_ret
      exact ⟨rfl,rfl⟩
def ndC (len:Nat) (m:Int):Int:=if (len:Int)≤m then (len:Int) else m+1
theorem nds_pos (t:RT):1≤(nds t).length:=by
  obtain ⟨k,x,nm,lb,w,n,d,ar⟩:=t
  unfold nds
  simp
theorem ndsL_drop (ar:List RT) (i:Nat) (h:i < ar.length):(ndsL (ar.take (i+1))).length=(ndsL (ar.take i)).length+(nds ar[i]).length:=by
  induction ar generalizing i with
  | nil=>simp at h
  | cons a ar ih =>
    cases i with
    | zero=>simp [ndsL]
    | succ i =>
      have:=ih i (by simpa using h)
      simp only [List.take_succ_cons,ndsL,List.length_append,List.getElem_cons_succ,this]
      omega
theorem ndsL_mono (ar:List RT) (i:Nat):(ndsL (ar.take i)).length≤(ndsL ar).length:=by
  induction ar generalizing i with
  | nil=>simp
  | cons a ar ih =>
    cases i with
    | zero=>simp [ndsL]
    | succ i =>
      have:=ih i
      simp only [List.take_succ_cons,ndsL,List.length_append]
      omega
theorem dnodes_any:∀ (t:RT) (v:Value) (w:World) (m:Int),RV 0 w t v→0≤m→m≤1000000 →
    Calls Tryz.prog 25 #[v,.int .i64 m] w fun e w'=>e=.returned (.int .i64 (ndC (nds t).length m))∧Below w.heap.size w w':=by
  refine RT.ind ?_
  intro k x nm lb wi n d ar ih v w m hv hm0 hm1
  unfold RV at hv
  obtain ⟨lv,qa,ab,ao,qc,rfl,⟨la,b1,o1,lc,rfl,hl1,hl2,hl3,hl4⟩,haa,hac,hac2,hrs⟩:=hv
  obtain ⟨W0,hW0⟩:∃ W0,W0=w.alloc (.cells (rc k x nm (.slice la lb.length lc) wi n d (.slice qa ar.length qc)) 26):=⟨_,rfl⟩
  have hb0:Below w.heap.size w W0:=by rw [hW0];exact bel1 w _
  have hn0:W0.heap[w.heap.size]? =some (.cells (rc k x nm (.slice la lb.length lc) wi n d (.slice qa ar.length qc)) 26):=by rw [hW0];exact new_1 w _
  have HC:Hid (∀ i (hi:i < ar.length),∃ c:Array Value,IsRc c∧(∀ W,Below w.heap.size w W→∀ j (hj:j < c.size),W.cell? ⟨ab,ao+i*8+j,none⟩=some c[j])∧(∀ W (m:Int),Below w.heap.size w W→0≤m→m≤1000000→Calls Tryz.prog 25 #[.agg c,.int .i64 m] W fun e w'=>e=.returned (.int .i64 (ndC (nds ar[i]).length m))∧Below W.heap.size W w')):=fun i hi=>by
    obtain ⟨c,h1,h2,h3⟩:=hrs.at_ i hi
    refine ⟨c,?_,fun W hb j hj=>cellH' hb (h3 j hj),fun W m hb q0 q1=>ih ar[i] (List.getElem_mem hi) (.agg c) W m (h1.below hb) q0 q1⟩
    obtain ⟨k',x',nm',la',ln',lc',w',n',d',aa',an',ac',e⟩:=h1.form
    exact ⟨k',x',nm',la',ln',lc',w',n',d',aa',an',ac',by cases e;rfl⟩
  obtain ⟨Z,hZ⟩:∃ Z,Z=ndC (nds (.mk k x nm lb wi n d ar)).length m:=⟨_,rfl⟩
  have HZ:Hid (Z=ndC (1+(ndsL ar).length) m):=by show _=_;rw [hZ,nds,List.length_cons,Nat.add_comm]
  rw [← hZ]
  have HB0:=hid_of hb0
  have HN0:=hid_of hn0
  have HW0:=hid_of hW0
  have HA:=hid_of haa
  have hal:(ar.length:Int)≤9223372036854775807:=by omega
  have HM:=hid_of (⟨hm0,hm1⟩:0≤m∧m≤1000000)
  have sF:=store_f
  clear ih hl1 hl2 hl3 hl4 haa hac2 hrs hW0 hb0 hn0 hZ hm0 hm1
  go_enter Tryz.func25,Tryz.ntmps25
  go_upto_region 1 with fail
  rw [← HW0.out]
  clear HW0
  go_wp2_with fail
  go_loopw [5,6] (fun q a W=>∃ (i:Nat) (z:Int),i≤ar.length∧q=.int .i64 z∧a=.int .i64 (i:Int)∧Hid (z=ndC (1+(ndsL (ar.take i)).length) m)∧Hid (Below w.heap.size w W)∧Hid (W.heap[w.heap.size]? =some (.cells (rc k x nm (.slice la lb.length lc) wi n d (.slice qa ar.length qc)) 26))) (fun _ a _=>ar.length - (intOf a).toNat)
  case atStart =>
    refine ⟨0,1,by omega,rfl,rfl,?_,HB0,HN0⟩
    show _=_
    have:=HM.out
    simp only [List.take_zero,ndsL,List.length_nil,ndC]
    split <;> omega
  case round =>
    clear HB0 HN0
    obtain ⟨i,z,hi,rfl,rfl,Hz,HB,HN⟩:=hrel
    obtain ⟨y0,y1,y2,y3,y4,y5,y6,y7⟩:=eight HN.out
    clear y0 y1 y2 y3 y4 y5 y6
    by_cases hlt:i < ar.length
    · have hlt':(i:Int) < (ar.length:Int):=by omega
      by_cases hz0:z≤m
      · obtain ⟨rfl,-⟩:=HA.out (fun e=>by rw [e] at hlt;simp at hlt)
        obtain ⟨c,⟨k',x',nm',la',ln',lc',w',n',d',aa',an',ac',rfl⟩,hcs,hcall⟩:=HC.out i hlt
        have hzz:z=((1+(ndsL (ar.take i)).length:Nat):Int):=by
          have:=Hz.out
          unfold ndC at this
          split at this <;> omega
        have q0:0≤m - z:=by omega
        have q1:m - z≤1000000:=by have:=HM.out;omega
        have w1:IntKind.i64.wrap (m - z)=m - z:=by rw [IntKind.wrap_i64];omega
        have D:La.HidC _ _ _ _ _:=hcall wr (m - z) HB.out q0 q1
        have hix:=index_rl ab ao ar.length qc i (i:Int) rfl hlt
        obtain ⟨p1,hp1⟩:∃ p,p=ao+i*8:=⟨_,rfl⟩
        rw [← hp1] at hix hcs
        have HNx:Hid (z+ndC (nds ar[i]).length (m - z)=ndC (1+(ndsL (ar.take (i+1))).length) m∧0≤z+ndC (nds ar[i]).length (m - z)∧z+ndC (nds ar[i]).length (m - z)≤1000001):=by
          have h1:=ndsL_drop ar i hlt
          have h2:=nds_pos ar[i]
          have h3:=HM.out
          show _∧_
          unfold ndC
          rw [h1]
          refine ⟨?_,?_,?_⟩
          all_goals (repeat' split)
          all_goals omega
        clear hp1 hcall HC hzz q0 q1 Hz
        have cs:=hcs wr HB.out
        have x0:=cs 0 (by show 0 < 8;decide)
        have x1:=cs 1 (by show 1 < 8;decide)
        have x2:=cs 2 (by show 2 < 8;decide)
        have x3:=cs 3 (by show 3 < 8;decide)
        have x4:=cs 4 (by show 4 < 8;decide)
        have x5:=cs 5 (by show 5 < 8;decide)
        have x6:=cs 6 (by show 6 < 8;decide)
        have x7:=cs 7 (by show 7 < 8;decide)
        try simp only [Nat.add_zero] at x0
        clear cs hcs
        generalize ndC (nds ar[i]).length (m - z)=z1 at *
        have w2:IntKind.i64.wrap (z+z1)=z+z1:=by have:=HNx.out;rw [IntKind.wrap_i64];omega
        go_wp2_with fail
        refine Calls.mono D.out ?_
        rintro e w3 ⟨rfl,hb3⟩
        have HB3:=hid_of (bt HB.out hb3)
        have HN3:=hid_of ((hb3.block _ (Array.getElem?_eq_some_iff.1 HN.out).1).trans HN.out)
        clear D hb3 HB HN y7 x0 x1 x2 x3 x4 x5 x6 x7 hix
        go_wp2_with fail
        exact ⟨⟨i+1,z+z1,by omega,by go_num,by go_num,HNx.out.1,HB3,HN3⟩,by simp [intOf];omega⟩
      · have HE:Hid (Z=z):=by
          show _=_
          have h1:=Hz.out
          have h2:=ndsL_mono ar i
          rw [HZ.out,h1]
          unfold ndC at h1 ⊢
          repeat' split
          all_goals (split at h1 <;> omega)
        clear HZ HC
        go_wp2_with fail
        go_ret
        exact ⟨congrArg (fun b:Int=>Ending.returned (.int .i64 b)) HE.out.symm,HB.out⟩
    · have hlt':¬ (i:Int) < (ar.length:Int):=by omega
      have HE:Hid (Z=z):=by show _=_;rw [HZ.out,Hz.out,List.take_of_length_le (by omega)]
      clear HZ HC
      by_cases hz0:z≤m
      all_goals
        go_wp2_with fail
        go_ret
        exact ⟨congrArg (fun b:Int=>Ending.returned (.int .i64 b)) HE.out.symm,HB.out⟩
end Go.Proofs.YtibahfopmjiffaaGreatDoor.Ru
