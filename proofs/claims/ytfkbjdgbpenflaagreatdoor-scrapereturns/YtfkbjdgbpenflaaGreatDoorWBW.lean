/- THE PAGE: head. Own work of the verifier. -/
import Derived.Test.YtfkbjdgbpenflaaGreatDoorWBR
import Derived.Test.YtfkbjdgbpenflaaGreatDoorWBS
import Derived.Test.YtfkbjdgbpenflaaGreatDoorWBV
set_option maxRecDepth 100000
set_option maxHeartbeats 1000000
namespace Go.Proofs.YtfkbjdgbpenflaaGreatDoor
open Go.RowKit Me
abbrev gnA:List UInt8:=[35,32,103,110,111,109,111,110,32]
abbrev reA:List UInt8:=[35,32,114,101,102,117,115,101,100,32]
def gnT (p:Int):List UInt8:=lnT [gnA,Lib.itoa p]
def reT (r:Nat):List UInt8:=lnT [reA,Lib.decDigits r]
theorem gnT_len (p:Int) (h:1≤p∧p≤14) (r:Nat) (hr:r < 18446744073709551616):(gnT p).length≤100∧(reT r).length≤100:=by
 have h1:=itoa_len (t:=p) ⟨by omega,by omega⟩
 have h2:=digits_len r hr
 unfold gnT reT lnT
 simp only [List.flatten_cons,List.flatten_nil,List.length_append,List.length_cons,List.length_nil]
 omega
theorem head_any (u:World) (pb:Nat) (p:Int) (T:List UInt8) (r:Nat) (ao:Option Addr) (n cap:Nat) (w:World) (h:Pg u pb w p T w) (ht:Wi.Tab u) (hp:1≤p∧p≤14) (hr:r < 18446744073709551616) (hT:fitB T=true) :
  Calls Tryz.prog 11 #[.pointer (some ⟨pb,0,none⟩),.agg #[.int .i64 p,.slice ao n cap,.int .u64 (r:Int)]] w fun e w'=>e=.returned (.bool (wrL T [gnT p,reT r]).2)∧Pg u pb w p (wrL T [gnT p,reT r]).1 w':=by
 have hlen:=gnT_len p hp r hr
 have HIt:Hid (∀ w W,Pg u pb w p T W→Calls Tryz.prog 22 #[.int .i64 p] W fun e w'=>e=.returned (.string ⟨(Lib.itoa p).toArray⟩)∧Below W.heap.size W w'):=fun w W k=>by
  refine Calls.mono (Tryz.strconv_Itoa p (by omega) (by omega) W (ht.below k.st)) ?_
  rintro e w' ⟨rfl,k,os,rfl⟩
  exact ⟨rfl,Wi.below_grow _ _ _⟩
 have HDg:Hid (∀ w X W,Pg u pb w p X W→Calls Tryz.prog 23 #[.int .u64 (r:Int)] W fun e w'=>e=.returned (.string ⟨(Lib.decDigits r).toArray⟩)∧Below W.heap.size W w'):=fun w X W k=>digits_t r hr W (ht.below k.st)
 have HL1:Hid (∀ w sb W,Pg u pb w p T W→W.heap[sb]? =some (.cells #[.string ⟨#[35,32,103,110,111,109,111,110,32]⟩,.string ⟨(Lib.itoa p).toArray⟩] 9)→Calls Tryz.prog 21 #[.pointer (some ⟨pb,0,none⟩),.slice (some ⟨sb,0,none⟩) 2 2] W fun e w'=>e=.returned (.bool (fitB (T++gnT p)))∧Pg u pb w p (T++gnT p) w') :=
  fun w sb W h1 h2=>by
   have q:=line_any u pb sb 2 p [gnA,Lib.itoa p] T W h1.re h2 (by simp) (by rw [← gnT];have:=fit_len hT;omega)
   rw [← gnT] at q
   refine Calls.mono q ?_
   rintro e w' ⟨rfl,q⟩
   exact ⟨rfl,h1.then q⟩
 have HL2:fitB (T++gnT p)=true→Hid (∀ w sb W,Pg u pb w p (T++gnT p) W→W.heap[sb]? =some (.cells #[.string ⟨#[35,32,114,101,102,117,115,101,100,32]⟩,.string ⟨(Lib.decDigits r).toArray⟩] 9)→Calls Tryz.prog 21 #[.pointer (some ⟨pb,0,none⟩),.slice (some ⟨sb,0,none⟩) 2 2] W fun e w'=>e=.returned (.bool (fitB (T++gnT p++reT r)))∧Pg u pb w p (T++gnT p++reT r) w') :=
  fun hf w sb W h1 h2=>by
   have q:=line_any u pb sb 2 p [reA,Lib.decDigits r] (T++gnT p) W h1.re h2 (by simp) (by rw [← reT];have:=fit_len hf;omega)
   rw [← reT] at q
   refine Calls.mono q ?_
   rintro e w' ⟨rfl,q⟩
   exact ⟨rfl,h1.then q⟩
 have hwr:=wrL_two T (gnT p) (reT r)
 rw [hwr]
 have hN0:=new_1 w (.cells #[.int .i64 p,.slice ao n cap,.int .u64 (r:Int)] 25)
 have HP0:=hid_of (h.alloc (.cells #[.int .i64 p,.slice ao n cap,.int .u64 (r:Int)] 25))
 have hne:w.heap.size≠pb:=by have:=h.lt;omega
 have HRf:Hid (∀ X W,Pg u pb (w.alloc (.cells #[.int .i64 p,.slice ao n cap,.int .u64 (r:Int)] 25)) p X W→W.cell? ⟨w.heap.size,2,none⟩=some (.int .u64 (r:Int))):=fun X W k=>by
  have:=k.cells hN0 hne (by decide)
  simp [World.cell?,this]
 clear h ht hp hr hT hlen hwr hN0 hne
 obtain ⟨W0,hW0⟩:∃ W0,W0=w.alloc (.cells #[.int .i64 p,.slice ao n cap,.int .u64 (r:Int)] 25):=⟨_,rfl⟩
 rw [← hW0] at HP0 HRf
 have HP1:=hid_of HP0.out.re
 have HW0:=hid_of hW0
 have c0:W0.cell? ⟨w.heap.size,0,none⟩=some (.int .i64 p):=by rw [hW0];simp [go_sem]
 clear hW0
 by_cases hf:fitB (T++gnT p)=true
 ·have HL2':=HL2 hf
  rw [hf] at HL1 ⊢
  clear HL2 hf
  generalize T++gnT p++reT r=R2 at HL2' ⊢
  generalize T++gnT p=R1 at HL1 HL2' ⊢
  generalize Lib.itoa p=D at HL1 HIt
  generalize Lib.decDigits r=K at HL2' HDg
  go_enter Tryz.func11,Tryz.ntmps11
  go_upto_region 1 with fail
  rw [← HW0.out]
  clear HW0
  go_wp2_with (first
   | (go_at_call 22;refine (HIt.out _ _ HP1.out).mono ?_;rintro e w2 ⟨rfl,hb2⟩;have HP2:=hid_of ((HP1.out.below hb2).alloc (.cells #[.string ⟨#[35,32,103,110,111,109,111,110,32]⟩,.string ⟨D.toArray⟩] 9));clear hb2)
   | (go_at_call 21;have hT2:=HP2;refine (HL1.out _ _ _ HP2.out (new_1 _ _)).mono ?_;rintro e w3 ⟨rfl,h3⟩;have HP3:=hid_of h3;have cr:=HRf.out _ _ h3;clear h3 HP2 HL1 hT2)
   | (go_at_call 23;refine (HDg.out _ _ _ HP3.out).mono ?_;rintro e w4 ⟨rfl,hb4⟩;have HP4:=hid_of ((HP3.out.below hb4).alloc (.cells #[.string ⟨#[35,32,114,101,102,117,115,101,100,32]⟩,.string ⟨K.toArray⟩] 9));clear hb4)
   | (go_at_call 21;refine (HL2'.out _ _ _ HP4.out (new_1 _ _)).mono ?_;rintro e w5 ⟨rfl,h5⟩;have HP5:=hid_of h5;clear h5))
  go_ret
  exact ⟨rfl,HP0.out.then HP5.out⟩
 ·simp only [Bool.not_eq_true] at hf
  rw [hf] at HL1 ⊢
  clear HL2 hf HDg HRf
  generalize T++gnT p=R1 at HL1 ⊢
  generalize Lib.itoa p=D at HL1 HIt
  go_enter Tryz.func11,Tryz.ntmps11
  go_upto_region 1 with fail
  rw [← HW0.out]
  clear HW0
  go_wp2_with (first
   | (go_at_call 22;refine (HIt.out _ _ HP1.out).mono ?_;rintro e w2 ⟨rfl,hb2⟩;have HP2:=hid_of ((HP1.out.below hb2).alloc (.cells #[.string ⟨#[35,32,103,110,111,109,111,110,32]⟩,.string ⟨D.toArray⟩] 9));clear hb2)
   | (go_at_call 21;refine (HL1.out _ _ _ HP2.out (new_1 _ _)).mono ?_;rintro e w3 ⟨rfl,h3⟩;have HP3:=hid_of h3;clear h3 HP2))
  go_ret
  exact ⟨rfl,HP0.out.then HP3.out⟩
def exL (vl:Vl→List (List UInt8)) (s:Sn):List (List UInt8):=[gnT s.p,reT s.r]++vsL vl none s.vs
def WrQ (w:World) (s:Sn) (A:List (List UInt8)) (e:Ending) (W:World):Prop :=
 ((chkS s).1≠0∧e=.returned (.tuple #[.slice none 0 0,.int .i64 (chkS s).1])) ∨
 ((chkS s).1=0∧(wrL [] A).2=false∧e=.returned (.tuple #[.slice none 0 0,.int .i64 4])) ∨
 ((chkS s).1=0∧(wrL [] A).2=true∧∃ ao cap,e=.returned (.tuple #[.slice ao A.flatten.length cap,.int .i64 0])∧W.ownsRow w.heap.size 5 1 (.slice ao A.flatten.length cap) A.flatten.length (Lib.byteCells A.flatten))
theorem chkS_p {s:Sn} (h:(chkS s).1=0):(1≤s.p∧s.p≤14)∧s.vs.length≤256:=by
 unfold chkS at h
 split at h
 ·simp at h
 ·split at h
  ·simp at h
  ·exact ⟨by omega,by omega⟩
theorem pg_new (u w:World) (p:Int) (h:Below u.heap.size u w):Pg u w.heap.size (w.alloc (.cells #[.int .i64 p,.slice none 0 0] 49)) p [] (w.alloc (.cells #[.int .i64 p,.slice none 0 0] 49)) :=
 ⟨⟨none,0,new_1 w _,rfl,Or.inl ⟨rfl,rfl⟩⟩,h.size,bt h (bel1 _ _),Lib.OthersKept.refl _ _ _⟩
theorem write_any (vl:Vl→List (List UInt8)) (s:Sn) (v:Value) (h:SnW s) (w:World) (hv:SnAt w s v) (ht:Wi.Tab w) (hk:(chkS s).1=0→∀ x ∈ s.vs,∀ pb,Wv w pb s.p vl x) :
  Calls Tryz.prog 6 #[v] w fun e w'=>WrQ w s (exL vl s) e w'∧Below w.heap.size w w':=by
 have hv0:=hv
 obtain ⟨uv,rfl,hu⟩:=hv
 obtain ⟨ao,b,o,cap,rfl,-,-,-,-⟩:=hu.open
 obtain ⟨W0,hW0⟩:∃ W0,W0=w.alloc (.cells #[.int .i64 s.p,.slice ao s.vs.length cap,.int .u64 (s.r:Int)] 25):=⟨_,rfl⟩
 have hN0:W0.heap[w.heap.size]? =some (.cells #[.int .i64 s.p,.slice ao s.vs.length cap,.int .u64 (s.r:Int)] 25):=by rw [hW0];exact new_1 w _
 have hb0:Below w.heap.size w W0:=by rw [hW0];exact bel1 w _
 have HC:La.HidC _ _ _ _ _:=check_any s _ h W0 (hv0.below hb0)
 have HW0:=hid_of hW0
 have HB0:=hid_of hb0
 obtain ⟨k0,k1,k2⟩:W0.cell? ⟨w.heap.size,0,none⟩=some (.int .i64 s.p)∧W0.cell? ⟨w.heap.size,1,none⟩=some (.slice ao s.vs.length cap)∧W0.cell? ⟨w.heap.size,2,none⟩=some (.int .u64 (s.r:Int)):=by
  refine ⟨?_,?_,?_⟩ <;> simp [World.cell?,hN0]
 by_cases hc:(chkS s).1=0
 ·obtain ⟨hp,hl⟩:=chkS_p hc
  have hr:s.r < 18446744073709551616:=h.r
  have hgn:(wrL [] [gnT s.p,reT s.r]).2=true:=by
   rw [wrL_all]
   right
   have:=gnT_len s.p hp s.r hr
   unfold fitB
   simp only [List.flatten_cons,List.flatten_nil,List.length_append,List.length_nil,decide_eq_true_eq]
   omega
  have hf0:fitB []=true:=by decide
  have hf1:=wrL_fit _ _ hf0 hgn
  have HHd:Hid (∀ pb w1,Pg w pb w1 s.p [] w1→Calls Tryz.prog 11 #[.pointer (some ⟨pb,0,none⟩),.agg #[.int .i64 s.p,.slice ao s.vs.length cap,.int .u64 (s.r:Int)]] w1 fun e w'=>e=.returned (.bool true)∧Pg w pb w1 s.p (wrL [] [gnT s.p,reT s.r]).1 w'):=fun pb w1 k=>by
   have q:=head_any w pb s.p [] s.r ao s.vs.length cap w1 k ht hp hr hf0
   rw [hgn] at q
   exact q
  have HVs:Hid (∀ pb w1,Pg w pb w1 s.p (wrL [] [gnT s.p,reT s.r]).1 w1→Calls Tryz.prog 12 #[.pointer (some ⟨pb,0,none⟩),.slice ao s.vs.length cap] w1 fun e w'=>e=.returned (.bool (wrL [] (exL vl s)).2)∧Pg w pb w1 s.p (wrL [] (exL vl s)).1 w'):=fun pb w1 k=>by
   have q:=values_any w pb s.p (wrL [] [gnT s.p,reT s.r]).1 vl s.vs _ w1 k hu hl (fun x hx=>hk hc x hx pb) hf1
   have e:wrL [] (exL vl s)=wrL (wrL [] [gnT s.p,reT s.r]).1 (vsL vl none s.vs):=wrL_skip hgn
   rw [e]
   exact q
  generalize (wrL [] [gnT s.p,reT s.r]).1=T1 at HHd HVs
  have HBx:Hid (∀ pb X w1 W,W0.heap.size≤pb→w1.heap[w.heap.size]? =some (.cells #[.int .i64 s.p,.slice ao s.vs.length cap,.int .u64 (s.r:Int)] 25)→Pg w pb w1 s.p X W→W.cell? ⟨w.heap.size,1,none⟩=some (.slice ao s.vs.length cap)):=fun pb X w1 W k1 k2 k3=>by
   have:=k3.cells k2 (by have:=(Array.getElem?_eq_some_iff.1 hN0).1;omega) (by decide)
   simp [World.cell?,this]
  have HN0:=hid_of hN0
  have hc':((chkS s).1 != 0)=false:=by rw [bne_eq_false_iff_eq];exact hc
  have hC0:=HC
  rw [hc] at hC0
  by_cases hok:(wrL [] (exL vl s)).2=true
  ·have HQ:Hid (∀ ao cap W,W.ownsRow w.heap.size 5 1 (.slice ao (exL vl s).flatten.length cap) (exL vl s).flatten.length (Lib.byteCells (exL vl s).flatten)→WrQ w s (exL vl s) (.returned (.tuple #[.slice ao (exL vl s).flatten.length cap,.int .i64 0])) W):=fun ao cap W q=>Or.inr (Or.inr ⟨hc,hok,ao,cap,rfl,q⟩)
   have hfl:=wrL_flat _ _ hok
   rw [List.nil_append] at hfl
   rw [hfl,hok] at HVs
   clear hv0 hu h ht hk hN0 hW0 hb0 hc hc' hok hfl hf0 hf1 hgn hp hl hr HC
   generalize WrQ w s (exL vl s)=Q at *
   generalize (exL vl s).flatten=R at *
   generalize (chkS s).2=zi at *
   go_enter Tryz.func6,Tryz.ntmps6
   go_upto_region 1 with fail
   rw [← HW0.out]
   clear HW0
   go_upto_region 5 with (go_at_call 5;refine (hC0.out).mono ?_;rintro e w2 ⟨rfl,hb2⟩;have HB2:=hid_of (bt HB0.out hb2);have hn2:=(hb2.block _ (Array.getElem?_eq_some_iff.1 HN0.out).1).trans HN0.out;have hlt2:=hb2.size;have c0:w2.cell? ⟨w.heap.size,0,none⟩=some (.int .i64 s.p):=by simp [World.cell?,hn2])
   have HP3:=hid_of (pg_new w w2 s.p HB2.out)
   have hn3:=((bel1 w2 (.cells #[.int .i64 s.p,.slice none 0 0] 49)).block _ (Array.getElem?_eq_some_iff.1 hn2).1).trans hn2
   have HB3:=hid_of (bt HB2.out (bel1 w2 (.cells #[.int .i64 s.p,.slice none 0 0] 49)))
   generalize w2.alloc (.cells #[.int .i64 s.p,.slice none 0 0] 49)=W3 at *
   obtain ⟨e0,e1,e2⟩:W3.cell? ⟨w.heap.size,0,none⟩=some (.int .i64 s.p)∧W3.cell? ⟨w.heap.size,1,none⟩=some (.slice ao s.vs.length cap)∧W3.cell? ⟨w.heap.size,2,none⟩=some (.int .u64 (s.r:Int)):=by
    refine ⟨?_,?_,?_⟩ <;> simp [World.cell?,hn3]
   have HL2:=hid_of hlt2
   have HN3:=hid_of hn3
   clear hn2 hn3 hlt2 c0 k0 k1 k2 hC0 HB0 HN0
   go_wp2_with (first
    | (go_at_call 11;refine (HHd.out _ _ HP3.out).mono ?_;rintro e w4 ⟨rfl,h4⟩;have c4:=HBx.out _ _ _ _ HL2.out HN3.out h4;have HP4:=hid_of h4;clear h4)
    | (go_at_call 12;refine (HVs.out _ _ HP4.out.re).mono ?_;rintro e w5 ⟨rfl,h5⟩;obtain ⟨a5,p5,f0,f1,-,f3⟩:=h5.cell;have HO:=hid_of f3;have HP5:=hid_of h5;clear h5 f3))
   go_ret2
   exact ⟨HQ.out _ _ _ HO.out,HP5.out.st⟩
  ·simp only [Bool.not_eq_true] at hok
   have HQ:Hid (∀ W,WrQ w s (exL vl s) (.returned (.tuple #[.slice none 0 0,.int .i64 4])) W):=fun W=>Or.inr (Or.inl ⟨hc,hok,rfl⟩)
   rw [hok] at HVs
   clear hv0 hu h ht hk hN0 hW0 hb0 hc hc' hok hf0 hf1 hgn hp hl hr HC
   generalize WrQ w s (exL vl s)=Q at *
   generalize (wrL [] (exL vl s)).1=R at HVs
   generalize (chkS s).2=zi at *
   go_enter Tryz.func6,Tryz.ntmps6
   go_upto_region 1 with fail
   rw [← HW0.out]
   clear HW0
   go_upto_region 5 with (go_at_call 5;refine (hC0.out).mono ?_;rintro e w2 ⟨rfl,hb2⟩;have HB2:=hid_of (bt HB0.out hb2);have hn2:=(hb2.block _ (Array.getElem?_eq_some_iff.1 HN0.out).1).trans HN0.out;have hlt2:=hb2.size;have c0:w2.cell? ⟨w.heap.size,0,none⟩=some (.int .i64 s.p):=by simp [World.cell?,hn2])
   have HP3:=hid_of (pg_new w w2 s.p HB2.out)
   have hn3:=((bel1 w2 (.cells #[.int .i64 s.p,.slice none 0 0] 49)).block _ (Array.getElem?_eq_some_iff.1 hn2).1).trans hn2
   have HB3:=hid_of (bt HB2.out (bel1 w2 (.cells #[.int .i64 s.p,.slice none 0 0] 49)))
   generalize w2.alloc (.cells #[.int .i64 s.p,.slice none 0 0] 49)=W3 at *
   obtain ⟨e0,e1,e2⟩:W3.cell? ⟨w.heap.size,0,none⟩=some (.int .i64 s.p)∧W3.cell? ⟨w.heap.size,1,none⟩=some (.slice ao s.vs.length cap)∧W3.cell? ⟨w.heap.size,2,none⟩=some (.int .u64 (s.r:Int)):=by
    refine ⟨?_,?_,?_⟩ <;> simp [World.cell?,hn3]
   have HL2:=hid_of hlt2
   have HN3:=hid_of hn3
   clear hn2 hn3 hlt2 c0 k0 k1 k2 hC0 HB0 HN0
   go_wp2_with (first
    | (go_at_call 11;refine (HHd.out _ _ HP3.out).mono ?_;rintro e w4 ⟨rfl,h4⟩;have c4:=HBx.out _ _ _ _ HL2.out HN3.out h4;have HP4:=hid_of h4;clear h4)
    | (go_at_call 12;refine (HVs.out _ _ HP4.out.re).mono ?_;rintro e w5 ⟨rfl,h5⟩;obtain ⟨a5,p5,f0,f1,-,f3⟩:=h5.cell;have HO:=hid_of f3;have HP5:=hid_of h5;clear h5 f3))
   go_ret2
   exact ⟨HQ.out _,HP5.out.st⟩
 ·have HQ:Hid (∀ W,WrQ w s (exL vl s) (.returned (.tuple #[.slice none 0 0,.int .i64 (chkS s).1])) W):=fun W=>Or.inl ⟨hc,rfl⟩
  have hc':((chkS s).1 != 0)=true:=by rw [bne_iff_ne];exact hc
  clear hv0 hu h ht hk hN0 hW0 hb0 hc
  generalize WrQ w s (exL vl s)=Q at *
  generalize (chkS s).1=z at *
  generalize (chkS s).2=zi at *
  go_enter Tryz.func6,Tryz.ntmps6
  go_upto_region 1 with fail
  rw [← HW0.out]
  clear HW0
  go_wp2_with (go_at_call 5;refine (HC.out).mono ?_;rintro e w2 ⟨rfl,hb2⟩;have HB2:=hid_of (bt HB0.out hb2);clear hb2)
  go_ret2
  exact ⟨HQ.out _,HB2.out⟩
def ctL (x:Vl):List (List UInt8):=[seT x.d [] [] (Lib.itoa x.t)]
theorem wrt_counter (u:World) (pb:Nat) (p:Int) (vl:Vl→List (List UInt8)) (x:Vl) (ht:Wi.Tab u) (hk:x.d.kind=1) (hs:Sho x.d []) (hx:VW x) (hv:vl x=ctL x):Wrt u pb p vl x:=by
 intro T lv cv w h hl hc hT
 have hkf:kfn x.d.kind=48:=by rw [hk];rfl
 rw [hkf,hv,ctL,wrL_one]
 exact counter_any u pb p T x lv cv w h ht hl hc hs hx hT
def xA:Vl:=⟨⟨1,[97],[],[]⟩,7,[],0,0,0,0⟩
def sA:Sn:=⟨1,[xA],0⟩
def sZ:Sn:=⟨0,[],0⟩
theorem chk_A:(chkS sA).1=0:=by
 have h1:La.chkD xA.d=0:=by
  have e1:La.nameB [97]=true:=by decide
  have e2:La.txE []=0:=by unfold La.txE;rw [La.utfB];rfl
  unfold La.chkD xA
  simp [e1,e2,La.chkL]
 have h2:holdB 1 xA=true:=by
  unfold holdB
  rw [if_pos (by decide)]
  decide
 unfold chkS sA
 rw [if_neg (by decide),if_neg (by decide)]
 simp only [chkV,chk1,h1,h2]
 simp
theorem chk_Z:(chkS sZ).1=1:=by
 unfold chkS sZ
 rw [if_pos (by decide)]
theorem sho_A:Sho xA.d []:=⟨by decide,by decide,by decide,fun a ha=>by simp [xA] at ha⟩
theorem vw_A:VW xA:=⟨⟨by decide,by decide⟩,(fun c hc=>by cases hc),by decide,by decide,by decide,by decide,by decide,⟨by decide,by decide,fun a ha=>by cases ha⟩⟩
abbrev txA:List UInt8:=[35,32,103,110,111,109,111,110,32,49,10,35,32,114,101,102,117,115,101,100,32,48,10,35,32,72,69,76,80,32,97,32,10,35,32,84,89,80,69,32,97,32,99,111,117,110,116,101,114,10,97,32,55,10]
theorem itoa_small (n:Nat) (h:n < 10):Lib.itoa (n:Int)=[UInt8.ofNat (48+n)]:=by
 unfold Lib.itoa
 rw [if_neg (by omega)]
 simpa using Wi.dec_small h
theorem text_A (vl:Vl→List (List UInt8)) (hv:vl xA=ctL xA):(exL vl sA).flatten=txA:=by
 have e1:Lib.itoa 1=[49]:=itoa_small 1 (by decide)
 have e7:Lib.itoa 7=[55]:=itoa_small 7 (by decide)
 have e0:Lib.decDigits 0=[48]:=Wi.dec_small (by decide)
 have hq:vl xA=[[97,32,55,10]]:=by
  rw [hv]
  simp only [ctL,seT,lnT,xA,e7]
  rfl
 unfold exL sA
 simp only [vsL,hq,gnT,reT,heT,tyT,lnT,e1,e0]
 rfl
theorem wrL_fits {A:List (List UInt8)} (h:A.flatten.length≤4194304):(wrL [] A).2=true:=by
 rw [wrL_all]
 right
 unfold fitB
 rw [List.nil_append,decide_eq_true_eq]
 omega
theorem snw_A:SnW sA:=⟨fun x hx=>by
 obtain rfl:x=xA:=by simpa [sA] using hx
 exact vw_A,by decide⟩
theorem snw_Z:SnW sZ:=⟨fun x hx=>(by cases hx),by decide⟩
theorem conv_own {W:World} {B:Nat} {ao:Option Addr} {cap:Nat} {l:List UInt8} (h:W.ownsRow B 5 1 (.slice ao l.length cap) l.length (Lib.byteCells l)):(convert 30 9 (.slice ao l.length cap)).run Tryz.prog W=.ok (.string ⟨l.toArray⟩) W:=by
 rcases h.2 with ⟨k,k2⟩ | ⟨g,c,cur,k,_⟩
 ·have e:l=[]:=List.length_eq_zero_iff.1 k2
  subst e
  injection k with k1 k3 k4
  subst k1
  simp only [List.length_nil] at k4 ⊢
  subst k4
  rfl
 ·injection k with k1 k3 k4
  subst k1
  refine run_convert_bytes_back W 30 9 5 ⟨g,0,none⟩ cap l Tryz.underlying30 Tryz.underlying5 Tryz.underlying9 (fun j hj=>?_)
  refine h.cells (g:=g) rfl j _ ?_
  simp [Lib.byteCells,hj]
noncomputable def vlL (P:Nat) (x:Vl):List (List UInt8):=if x.d.kind=1 then ctL x else if x.d.kind=2 then hgL P x else smL x
theorem chk1_z {p:Int} {q:Option Vl} {x:Vl} (h:chk1 p q x=0):La.chkD x.d=0∧holdB p x=true:=by
 unfold chk1 at h
 by_cases h1:La.chkD x.d=0
 ·rw [if_neg (by simpa using h1)] at h
  cases h2:holdB p x
  ·rw [if_pos h2] at h
   exact absurd h (by decide)
  ·exact ⟨h1,rfl⟩
 ·rw [if_pos h1] at h
  exact absurd h h1
theorem chkV_z (p:Int):∀ (L:List Vl) (q:Option Vl) (i:Nat),(chkV p q L i).1=0→∀ x ∈ L,La.chkD x.d=0∧holdB p x=true
 | [],_,_,_,_,hx=>by cases hx
 | y::r,q,i,h,x,hx=>by
  rw [chkV] at h
  by_cases hz:chk1 p q y=0
  ·rw [if_neg (by simpa using hz)] at h
   rcases List.mem_cons.1 hx with e | e
   ·rw [e];exact chk1_z hz
   ·exact chkV_z p r _ _ h x e
  ·rw [if_pos hz] at h
   exact absurd h hz
theorem chkS_z {s:Sn} (h:(chkS s).1=0):∀ x ∈ s.vs,La.chkD x.d=0∧holdB s.p x=true:=by
 unfold chkS at h
 split at h
 ·exact absurd h (by decide)
 ·split at h
  ·exact absurd h (by decide)
  ·exact chkV_z _ _ _ _ h
theorem tx_z {l:List UInt8} (h:La.txE l=0):l.length≤1024:=by
 unfold La.txE at h
 split at h
 ·exact absurd h (by decide)
 ·omega
theorem plain_z {c:Bool} {l:List UInt8} (h:La.plainB c l=true):1≤l.length∧l.length≤64∧La.rowN c l=l.length:=by
 unfold La.plainB at h
 simp only [Bool.and_eq_true,decide_eq_true_eq] at h
 exact ⟨h.1.1.1,h.1.1.2,h.1.2⟩
theorem row_gd (c:Bool):∀ l:List UInt8,La.rowN c l=l.length→∀ b ∈ l,La.gd c b.toNat=true
 | [],_,_,h=>by cases h
 | a::r,hl,b,hb=>by
  rw [La.rowN,List.length_cons] at hl
  split at hl
  ·rename_i hg
   rcases List.mem_cons.1 hb with e | e
   ·rw [e];exact hg
   ·exact row_gd c r (by omega) b e
  ·omega
theorem chkL_z:∀ (L:List La.Lb) (q:Option (List UInt8)),La.chkL L q=0→∀ a ∈ L,La.lnameB a.1=true∧La.txE a.2=0
 | [],_,_,_,ha=>by cases ha
 | y::r,q,h,a,ha=>by
  unfold La.chkL at h
  cases h1:La.lnameB y.1
  ·rw [if_pos h1] at h;exact absurd h (by decide)
  ·rw [if_neg (by rw [h1];decide)] at h
   by_cases h2:La.txE y.2=0
   ·rw [if_neg (by simpa using h2)] at h
    have hr:La.chkL r (some y.1)=0:=by
     cases q with
     | none=>exact h
     | some q =>
      simp only at h
      by_cases h3:La.bhE q y.1=0
      ·rw [if_neg (by simpa using h3)] at h;exact h
      ·rw [if_pos h3] at h;exact absurd h h3
    rcases List.mem_cons.1 ha with e | e
    ·rw [e];exact ⟨h1,h2⟩
    ·exact chkL_z r _ hr a e
   ·rw [if_pos h2] at h;exact absurd h h2
structure DOk (d:La.Ds):Prop where
 k:d.kind=1∨d.kind=2∨d.kind=3
 n:La.plainB true d.name=true
 h:d.help.length≤1024
 l:d.labels.length≤16
 v:∀ a ∈ d.labels,La.plainB false a.1=true∧a.2.length≤1024
theorem chkD_z {d:La.Ds} (h:La.chkD d=0):DOk d:=by
 unfold La.chkD at h
 split at h
 ·exact absurd h (by decide)
 ·rename_i hk
  cases h1:La.nameB d.name
  ·rw [if_pos h1] at h;exact absurd h (by decide)
  ·rw [if_neg (by rw [h1];decide)] at h
   by_cases h2:La.txE d.help=0
   ·rw [if_neg (by simpa using h2)] at h
    split at h
    ·exact absurd h (by decide)
    ·rename_i hl
     refine ⟨by omega,?_,tx_z h2,by omega,fun a ha=>?_⟩
     ·unfold La.nameB at h1
      simp only [Bool.and_eq_true] at h1
      exact h1.1.1.1
     ·obtain ⟨k1,k2⟩:=chkL_z _ _ h a ha
      unfold La.lnameB at k1
      simp only [Bool.and_eq_true] at k1
      exact ⟨k1.1.1.1,tx_z k2⟩
   ·rw [if_pos h2] at h;exact absurd h h2
theorem DOk.sho {d:La.Ds} (h:DOk d):Sho d []:=by
 refine ⟨?_,by have:=h.h;omega,by rw [List.append_nil];have:=h.l;omega,fun a ha=>?_⟩
 ·have:=(plain_z h.n).2.1;omega
 ·rw [List.append_nil] at ha
  obtain ⟨k1,k2⟩:=h.v a ha
  have:=(plain_z k1).2.1
  exact ⟨by omega,by omega⟩
theorem hold_may {p:Int} {x:Vl} (h:holdB p x=true) (hk:x.d.kind=2):MayIs p x.cs 0:=by
 unfold holdB at h
 rw [if_neg (by omega),if_pos hk,Bool.and_eq_true] at h
 have h1:=h.1
 unfold cntB at h1
 simp only [Bool.and_eq_true,decide_eq_true_eq] at h1
 rw [← h1.1.1]
 exact mayE_is p x.cs
theorem wv_all {s:Sn} {w:World} (hS:SnW s) (ht:Wi.Tab w) (hg:Rl.Glob2 w) (h:(chkS s).1=0):∀ x ∈ s.vs,∀ pb,Wv w pb s.p (vlL s.p.toNat) x:=by
 intro x hx pb
 obtain ⟨h1,h2⟩:=chkS_z h x hx
 have hd:=chkD_z h1
 obtain ⟨⟨p1,p2⟩,-⟩:=chkS_p h
 obtain ⟨P,hP⟩:=Int.eq_ofNat_of_zero_le (show 0≤s.p by omega)
 refine ⟨hd.k,hd.sho,?_⟩
 rcases hd.k with k | k | k
 ·exact wrt_counter w pb s.p _ x ht k hd.sho (hS.vs x hx) (by unfold vlL;rw [if_pos k])
 ·have hv:vlL s.p.toNat x=hgL P x:=by unfold vlL;rw [if_neg (by omega),if_pos k,hP,Int.toNat_natCast]
  intro T lv cv w1 q1 q2 q3 q4
  have hkf:kfn x.d.kind=49:=by rw [k];rfl
  rw [hkf,hv]
  rw [hP] at q1 h2 ⊢
  exact hist_any w pb P T x lv cv w1 q1 ht q2 q3 hd.sho hd.l (hS.vs x hx) (hold_may h2 k) q4
 ·have hv:vlL s.p.toNat x=smL x:=by unfold vlL;rw [if_neg (by omega),if_neg (by omega)]
  intro T lv cv w1 q1 q2 q3 q4
  have hkf:kfn x.d.kind=50:=by rw [k];rfl
  rw [hkf,hv]
  exact summ_any w pb s.p T x lv cv w1 q1 ht hg q2 q3 hd.sho hd.l (hS.vs x hx) q4
end Go.Proofs.YtfkbjdgbpenflaaGreatDoor
