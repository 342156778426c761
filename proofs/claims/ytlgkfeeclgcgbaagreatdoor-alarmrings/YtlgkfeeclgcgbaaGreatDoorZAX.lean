/- RULES: THE READER: rule, whole. Own work of the verifier. -/
import Derived.Test.YtlgkfeeclgcgbaaGreatDoorZAW
set_option maxHeartbeats 1000000
namespace Go.Proofs.YtlgkfeeclgcgbaaGreatDoor.Ru
open Go.RowKit Me
theorem begins_any (l:List UInt8) (w:World) :
  Calls Tryz.prog 72 #[.string ⟨l.toArray⟩] w fun e w'=>e=.returned (.int .i64 (bgn l:Int))∧w'=w:=by
 cases l with
 | nil =>
  go_enter Tryz.func72,Tryz.ntmps72
  go_wp2_with fail
  go_ret
  exact ⟨rfl,rfl⟩
 | cons c r =>
  have hne:((c::r) == [])=false:=rfl
  have hB:0 < (ByteArray.mk (c::r).toArray).size:=by show 0 < (c::r).toArray.size;simp
  have hbe:(ByteArray.mk (c::r).toArray)[0]'hB=c:=rfl
  have hl:(0:Int) < ((c::r).length:Int):=by rw [List.length_cons];omega
  have HD:Hid (∀ W,Calls Tryz.prog 93 #[.int .u8 (c.toNat:Int)] W fun e w'=>e=.returned (.bool (isDg c))∧w'=W):=fun W=>isdg_any c W
  have HL:Hid (∀ W,Calls Tryz.prog 94 #[.int .u8 (c.toNat:Int)] W fun e w'=>e=.returned (.bool (isLt c))∧w'=W):=fun W=>islt_any c W
  rw [show bgn (c::r)=if c.toNat=40 then 1 else if (decide (c.toNat=45) || isDg c)=true then 2 else if isLt c=true then 3 else 0 from rfl]
  generalize hll:c::r=l at *
  clear hll
  by_cases g1:c.toNat=40
  ·have t1:((c.toNat:Int) == 40)=true:=by rw [beq_iff_eq];omega
   rw [if_pos g1]
   clear HD HL g1
   as_aux_lemma =>
    go_enter Tryz.func72,Tryz.ntmps72
    go_wp2_with fail
    go_ret
    exact ⟨rfl,rfl⟩
  ·have t1:((c.toNat:Int) == 40)=false:=by rw [beq_eq_false_iff_ne];omega
   rw [if_neg g1]
   by_cases g2:c.toNat=45
   ·have t2:((c.toNat:Int) == 45)=true:=by rw [beq_iff_eq];omega
    rw [if_pos (by simp [g2])]
    clear HD HL g1 g2
    as_aux_lemma =>
     go_enter Tryz.func72,Tryz.ntmps72
     go_wp2_with fail
     go_ret
     exact ⟨rfl,rfl⟩
   ·have t2:((c.toNat:Int) == 45)=false:=by rw [beq_eq_false_iff_ne];omega
    cases hd:isDg c
    ·rw [hd] at HD
     rw [if_neg (by simp [g2])]
     cases hlt:isLt c
     ·rw [hlt] at HL
      rw [if_neg (by decide)]
      clear g1 g2 hd hlt
      as_aux_lemma =>
       go_enter Tryz.func72,Tryz.ntmps72
       go_wp2_with (first | (go_at_call 93;refine (HD.out _).mono ?_;rintro e1 w1 ⟨rfl,rfl⟩) | (go_at_call 94;refine (HL.out _).mono ?_;rintro e1 w1 ⟨rfl,rfl⟩))
       go_ret
       exact ⟨rfl,rfl⟩
     ·rw [hlt] at HL
      rw [if_pos rfl]
      clear g1 g2 hd hlt
      as_aux_lemma =>
       go_enter Tryz.func72,Tryz.ntmps72
       go_wp2_with (first | (go_at_call 93;refine (HD.out _).mono ?_;rintro e1 w1 ⟨rfl,rfl⟩) | (go_at_call 94;refine (HL.out _).mono ?_;rintro e1 w1 ⟨rfl,rfl⟩))
       go_ret
       exact ⟨rfl,rfl⟩
    ·rw [hd] at HD
     rw [if_pos (by simp)]
     clear g1 g2 hd HL
     as_aux_lemma =>
      go_enter Tryz.func72,Tryz.ntmps72
      go_wp2_with (first | (go_at_call 93;refine (HD.out _).mono ?_;rintro e1 w1 ⟨rfl,rfl⟩))
      go_ret
      exact ⟨rfl,rfl⟩
theorem beg_e0 (s:St) (h:(beg s).e=0):s.e=0∧s.n≠512:=by
 unfold beg at h
 dsimp only at h
 by_cases k:s.n=512
 ·rw [if_pos k] at h
  exact absurd h (fl_e _ _ _ (by decide))
 ·rw [if_neg k] at h
  exact ⟨h,k⟩
theorem beg_n (s:St):(beg s).n=s.n+1:=by
 unfold beg
 dsimp only
 split
 ·rw [fl_n]
 ·rfl
theorem Ok.beg {T:List UInt8} {s:St} (h:Ok T s) (hn:s.n≤1999):Ok T (beg s):=by
 have h1:Ok T (if s.n=512 then Ru.fl s 3 s.a else s):=by
  split
  ·exact h.fl (fun _=>h.a)
  ·exact h
 refine ⟨h1.a,?_,h.t⟩
 rw [beg_n]
 omega
theorem rst_e {T:List UInt8} {s:St} (h:s.e≠0):rst T s=[]:=by unfold rst;rw [if_neg h]
theorem stp_ok {T:List UInt8} {f:Nat} (hf:f≤512) {PR:List UInt8→Option Nat} {rec:St→RT × St} (hr:∀ f',f=f'+1→RecM T f' rec) {s:St} (ho:Ok T s) (hc:Cf f s):RecM1 T f s (stpF PR rec T s).2:=by
 have hn:s.n≤1029:=by
  by_cases e:s.e=0
  ·have:=(hc.a e).1;omega
  ·exact hc.b e
 have hb:=ho.beg (by omega)
 have hbn:=beg_n s
 have hf2:RecM1 T f s (fl (beg s) 5 (beg s).a):=by
  refine ⟨hb.fl (fun _=>hb.a),by rw [fl_n,hbn];exact Nat.le_refl _,fun e=>absurd e (fl_e _ _ _ (by decide)),fun e=>?_,fun e=>by rw [fl_n,hbn]⟩
  rw [fl_n,hbn]
  have:=(hc.a e).1
  omega
 unfold stpF
 dsimp only
 by_cases e:(beg s).e=0
 ·obtain ⟨e0,e1⟩:=beg_e0 s e
  obtain ⟨c1,c2⟩:=hc.a e0
  obtain ⟨f',rfl⟩:∃ f',f=f'+1:=⟨f - 1,by omega⟩
  have hR:=hr f' rfl
  have hcb:Cf f' (beg s):=⟨fun _=>by rw [hbn];omega,fun k=>absurd e k⟩
  have last:∀ s',Ok T s'→(beg s).n≤s'.n→(s'.e=0→s'.n≤512)→s'.n≤513+(f'+1)→RecM1 T (f'+1) s s':=fun s' h1 h2 h3 h4=>⟨h1,by omega,fun k=>⟨e0,h3 k⟩,fun _=>h4,fun k=>absurd e0 k⟩
  split
  ·-- two
   have o1:=hb.mst (T:=T) [40]
   have m1:=hR _ o1 (hcb.mst _ (by omega))
   have o3:=((m1.ok.mst (T:=T) [32]).namF isSg [4,5,6]).mst (T:=T) [32]
   have n3:(mst T [32] (namF isSg [4,5,6] T (mst T [32] (rec (mst T [40] (beg s))).2)).2).n=(rec (mst T [40] (beg s))).2.n:=by rw [mst_n,namF_n,mst_n]
   have hlo:=m1.lo
   have hup:=m1.up
   have hhi:=m1.hi
   rw [mst_n] at hlo hup
   have c5:Cf f' (mst T [32] (namF isSg [4,5,6] T (mst T [32] (rec (mst T [40] (beg s))).2)).2):=by
    refine ⟨fun k=>?_,fun _=>?_⟩
    ·have k1:=mst_e0 _ _ _ (namF_e0 _ _ _ _ (mst_e0 _ _ _ k))
     have:=(m1.e0 k1).2
     rw [n3]
     omega
    ·rw [n3]
     by_cases k:(mst T [40] (beg s)).e=0
     ·have:=hhi k;omega
     ·have:=hup k;omega
   have m5:=hR _ o3 c5
   have o7:=m5.ok.mst (T:=T) [41]
   refine last _ o7 ?_ ?_ ?_
   ·show _≤(mst T [41] _).n
    rw [mst_n]
    have:=m5.lo
    rw [n3] at this
    omega
   ·intro k
    show (mst T [41] _).n≤_
    rw [mst_n]
    exact (m5.e0 (mst_e0 _ _ _ k)).2
   ·show (mst T [41] _).n≤_
    rw [mst_n]
    by_cases k:(mst T [32] (namF isSg [4,5,6] T (mst T [32] (rec (mst T [40] (beg s))).2)).2).e=0
    ·have:=m5.hi k;omega
    ·rw [m5.up k,n3]
     by_cases k2:(mst T [40] (beg s)).e=0
     ·have:=hhi k2;omega
     ·have:=hup k2;omega
  ·-- number
   unfold numF
   split
   ·refine last _ (hb.ps (rowF_le isNm T _)) ?_ ?_ ?_ <;> (simp only [ps_n];omega)
   ·refine last _ (hb.fl (fun _=>hb.a)) ?_ ?_ ?_ <;> (simp only [fl_n];omega)
  ·-- word
   have o1:=(hb.namF isLt [2,3,7]).mst (T:=T) [40]
   have n1:(mst T [40] (namF isLt [2,3,7] T (beg s)).2).n=(beg s).n:=by rw [mst_n,namF_n]
   by_cases q:(kwA (namF isLt [2,3,7] T (beg s)).1).1=7
   ·have e7:(wrdF rec T (beg s)).2=mst T [41] (rec (mst T [40] (namF isLt [2,3,7] T (beg s)).2)).2:=by unfold wrdF;dsimp only;rw [if_pos q]
    rw [e7]
    have c1:Cf f' (mst T [40] (namF isLt [2,3,7] T (beg s)).2):=⟨fun k=>by rw [n1];omega,fun _=>by rw [n1];omega⟩
    have m1:=hR _ o1 c1
    generalize mst T [40] (namF isLt [2,3,7] T (beg s)).2=s1 at *
    have hlo:=m1.lo
    have hup:=m1.up
    have hhi:=m1.hi
    generalize rec s1=q1 at *
    refine last _ (m1.ok.mst (T:=T) [41]) ?_ ?_ ?_
    ·rw [mst_n];omega
    ·intro k
     rw [mst_n]
     exact (m1.e0 (mst_e0 _ _ _ k)).2
    ·rw [mst_n]
     by_cases k:s1.e=0
     ·have:=hhi k;omega
     ·have:=hup k;omega
   ·obtain ⟨X,hX⟩:∃ X,X=(if (kwA (namF isLt [2,3,7] T (beg s)).1).1=3 then (shrF T (mst T [40] (namF isLt [2,3,7] T (beg s)).2)).2.2 else mst T [40] (namF isLt [2,3,7] T (beg s)).2):=⟨_,rfl⟩
    have e7:(wrdF rec T (beg s)).2=mst T [41] (winF T (serF T X).2.2).2:=by
     unfold wrdF
     dsimp only
     rw [if_neg q,hX]
     by_cases q3:(kwA (namF isLt [2,3,7] T (beg s)).1).1=3
     ·rw [if_pos q3,if_pos q3]
     ·rw [if_neg q3,if_neg q3]
    have hXo:Ok T X:=by
     rw [hX]
     split
     ·exact o1.shrF
     ·exact o1
    have hXn:X.n=(beg s).n:=by
     rw [hX]
     split
     ·rw [shrF_n,n1]
     ·exact n1
    rw [e7]
    clear hX e7 q n1 o1
    have h4:=hXo.serF.winF.mst (T:=T) [41]
    have n4:(mst T [41] (winF T (serF T X).2.2).2).n=X.n:=by rw [mst_n,winF_n,serF_n]
    generalize mst T [41] (winF T (serF T X).2.2).2=Y at *
    exact last Y h4 (by omega) (fun _=>by omega) (by omega)
  ·exact hf2
 ·rw [rst_e e]
  exact hf2
theorem rul_ok {T:List UInt8} (PR:List UInt8→Option Nat):∀ f,f≤512→RecM T f (rulF PR T f)
 | 0,hf=>fun _ ho hc=>stp_ok hf (fun _ k=>absurd k (by omega)) ho hc
 | f+1,hf=>fun _ ho hc=>stp_ok hf (fun f' k=>by
   have e:f=f':=by omega
   subst e
   exact rul_ok PR f (by omega)) ho hc
end Go.Proofs.YtlgkfeeclgcgbaaGreatDoor.Ru
/- RULES: THE READER: rule. Own work of the verifier. (Printed by a program of the verifier's.) -/
set_option maxRecDepth 100000
set_option maxHeartbeats 8000000
namespace Go.Proofs.YtlgkfeeclgcgbaaGreatDoor.Ru
open Go.RowKit Me
theorem stp_1 {PR:List UInt8→Option Nat} {rec:St→RT × St} {T:List UInt8} {s:St} (h:bgn (rst T (beg s))=1):stpF PR rec T s=twoF rec T (beg s):=by unfold stpF;dsimp only;rw [h];rfl
theorem stp_2 {PR:List UInt8→Option Nat} {rec:St→RT × St} {T:List UInt8} {s:St} (h:bgn (rst T (beg s))=2):stpF PR rec T s=numF PR T (beg s):=by unfold stpF;dsimp only;rw [h];rfl
theorem stp_3 {PR:List UInt8→Option Nat} {rec:St→RT × St} {T:List UInt8} {s:St} (h:bgn (rst T (beg s))=3):stpF PR rec T s=wrdF rec T (beg s):=by unfold stpF;dsimp only;rw [h];rfl
theorem stp_0 {PR:List UInt8→Option Nat} {rec:St→RT × St} {T:List UInt8} {s:St} (h:bgn (rst T (beg s))=0):stpF PR rec T s=(.zero,fl (beg s) 5 (beg s).a):=by unfold stpF;dsimp only;rw [h];rfl
theorem bgn_le (l:List UInt8):bgn l=0∨bgn l=1∨bgn l=2∨bgn l=3:=by
 cases l with
 | nil=>exact Or.inl rfl
 | cons c l =>
  unfold bgn
  dsimp only
  split
  ·exact Or.inr (Or.inl rfl)
  ·split
   ·exact Or.inr (Or.inr (Or.inl rfl))
   ·split
    ·exact Or.inr (Or.inr (Or.inr rfl))
    ·exact Or.inl rfl
theorem bgn_ne {T:List UInt8} {s:St} (h:bgn (rst T s)≠0):s.e=0:=by
 by_cases k:s.e=0
 ·exact k
 ·rw [rst_e k] at h
  exact absurd rfl h
theorem rule_step {T:List UInt8} {rb:Nat} {u w0:World} {f:Nat} (hf:f≤512) {PR:List UInt8→Option Nat} {rec:St→RT × St} (hr:∀ f',f=f'+1→RecM T f' rec) {s:St} (hRa:∀ f',f=f'+1→∀ z,nxt rec T (beg s) z→RecAt T rb u f' rec z) {w:World} (h:Rd T rb u w0 s w) (ho:Ok T s) (hc:Cf f s) (he:Env u) (hPR:bgn (rst T (beg s))=2→PrAt PR u (rowF isNm T (beg s))) :
  Calls Tryz.prog 57 #[.pointer (some ⟨rb,0,none⟩)] w fun e w'=>TellR T rb u w0 w.heap.size (stpF PR rec T s) e w':=by
 have hn:s.n≤1029:=by
  by_cases e:s.e=0
  ·have:=(hc.a e).1;omega
  ·exact hc.b e
 have hb1:=bel1 w (.cells (rc 0 0 [] (.slice none 0 0) 0 0 0 (.slice none 0 0)) 61)
 have hn1:Z8 w.heap.size (w.alloc (.cells (rc 0 0 [] (.slice none 0 0) 0 0 0 (.slice none 0 0)) 61)):=new_1 w _
 have hA:=h.below hb1
 have hrb:=h.lt
 have hu:=h.st.size
 have hw0:=h.ex.size
 have hob:=ho.beg (by omega)
 have HRe:Hid (∀ W,Rd T rb u w0 (beg s) W→Calls Tryz.prog 58 #[.pointer (some ⟨rb,0,none⟩)] W fun e w'=>e=.returned (.string ⟨(rst T (beg s)).toArray⟩)∧∃ n,w'=W.drewN n):=fun W h=>rest_any h hob
 have HBg:Hid (∀ W,Calls Tryz.prog 72 #[.string ⟨(rst T (beg s)).toArray⟩] W fun e w'=>e=.returned (.int .i64 (bgn (rst T (beg s)):Int))∧w'=W):=fun W=>begins_any _ W
 have HF3:Hid (∀ a W,Rd T rb u w0 s W→Calls Tryz.prog 59 #[.pointer (some ⟨rb,0,none⟩),.int .i64 3,.int .i64 ((a:Nat):Int)] W fun r w'=>r=.returned (.tuple #[])∧Rd T rb u W (fl s 3 a) w'):=fun a W h=>fail_any h.re 3 a
 have HF5:Hid (∀ a W,Rd T rb u w0 (beg s) W→Calls Tryz.prog 59 #[.pointer (some ⟨rb,0,none⟩),.int .i64 5,.int .i64 ((a:Nat):Int)] W fun r w'=>r=.returned (.tuple #[])∧Rd T rb u W (fl (beg s) 5 a) w'):=fun a W h=>fail_any h.re 5 a
 have hfr:bgn (rst T (beg s))≠0→∃ f',f=f'+1∧f'≤511∧(beg s).e=0∧(beg s).n≤512∧512≤(beg s).n+f':=fun k=>by
  have e:=bgn_ne k
  obtain ⟨e0,e1⟩:=beg_e0 s e
  obtain ⟨c1,c2⟩:=hc.a e0
  have:=beg_n s
  exact ⟨f - 1,by omega,by omega,e,by omega,by omega⟩
 have H1:Hid (bgn (rst T (beg s))=1→∀ W,Rd T rb u w0 (beg s) W→Calls Tryz.prog 73 #[.pointer (some ⟨rb,0,none⟩)] W fun e w'=>TellR T rb u W W.heap.size (stpF PR rec T s) e w'):=fun k W h=>by
  obtain ⟨f',e1,e2,e3,e4⟩:=hfr (by omega)
  rw [stp_1 k]
  exact two_any e2 (hRa f' e1 _ (Or.inl ⟨k,Or.inl rfl⟩)) (hRa f' e1 _ (Or.inl ⟨k,Or.inr rfl⟩)) (hr f' e1) h.re hob e3 e4 he
 have H2:Hid (bgn (rst T (beg s))=2→∀ W,Rd T rb u w0 (beg s) W→Calls Tryz.prog 74 #[.pointer (some ⟨rb,0,none⟩)] W fun e w'=>TellR T rb u W W.heap.size (stpF PR rec T s) e w'):=fun k W h=>by
  rw [stp_2 k]
  exact number_any h.re hob PR (hPR k)
 have H3:Hid (bgn (rst T (beg s))=3→∀ W,Rd T rb u w0 (beg s) W→Calls Tryz.prog 75 #[.pointer (some ⟨rb,0,none⟩)] W fun e w'=>TellR T rb u W W.heap.size (stpF PR rec T s) e w'):=fun k W h=>by
  obtain ⟨f',e1,e2,e3,e4⟩:=hfr (by omega)
  rw [stp_3 k]
  exact word_any e2 (fun e=>hRa f' e1 _ (Or.inr ⟨k,e,rfl⟩)) h.re hob e3 e4 (fun s' o c=>((hr f' e1) s' o c).ok) he
 have HT0:Hid (bgn (rst T (beg s))=0→∀ W,RV w.heap.size W .zero (rx 0 0 [] (.slice none 0 0) 0 0 0 (.slice none 0 0))→Rd T rb u w0 (fl (beg s) 5 (beg s).a) W→TellR T rb u w0 w.heap.size (stpF PR rec T s) (.returned (rx 0 0 [] (.slice none 0 0) 0 0 0 (.slice none 0 0))) W):=fun k W hv hr=>tellR_mk (stp_0 k) hv (fun _=>rfl) hr
 have HTx:Hid (∀ t v W,RV w.heap.size W t v→((stpF PR rec T s).2.e=0→t=(stpF PR rec T s).1)→Rd T rb u w0 (stpF PR rec T s).2 W→TellR T rb u w0 w.heap.size (stpF PR rec T s) (.returned v) W):=fun t v W hv ht hr=>⟨t,v,rfl,hv,ht,hr⟩
 obtain ⟨⟨c0,c1,c2,c3⟩,f1,f2,f3⟩:=four_cells hA.at_
 have hB5:s.n=512→bgn (rst T (beg s))=0:=fun k=>by
  rcases bgn_le (rst T (beg s)) with e | e | e | e
  ·exact e
  ·exact absurd k (beg_e0 s (bgn_ne (T:=T) (s:=beg s) (by omega))).2
  ·exact absurd k (beg_e0 s (bgn_ne (T:=T) (s:=beg s) (by omega))).2
  ·exact absurd k (beg_e0 s (bgn_ne (T:=T) (s:=beg s) (by omega))).2
 have hbs5:s.n=512→beg s=⟨(fl s 3 s.a).a,(fl s 3 s.a).e,513⟩∧(fl s 3 s.a).n=512:=fun k=>by
  unfold beg
  dsimp only
  rw [if_pos k,fl_n,k]
  exact ⟨rfl,rfl⟩
 have hbsn:s.n≠512→beg s=⟨s.a,s.e,s.n+1⟩:=fun k=>by
  unfold beg
  dsimp only
  rw [if_neg k]
 have HA:=hid_of hA
 have HH0:=hid_of h
 have HN:=hid_of hn1
 have HB:=hid_of (bgn_le (rst T (beg s)))
 have sF:=store_f
 clear h ho hc he hPR hr hRa hfr hb1 hn1 hob hf
 generalize bgn (rst T (beg s))=bg at *
 generalize stpF PR rec T s=Q at *
 generalize rst T (beg s)=R at *
 by_cases k5:s.n=512
 ·obtain rfl:=hB5 k5
  obtain ⟨b1,b2⟩:=hbs5 k5
  have kn:((s.n:Int) == 512)=true:=by rw [beq_iff_eq];omega
  have HF:=hid_of (HT0.out rfl)
  have HBS:=hid_of b1
  have HFN:=hid_of b2
  clear hB5 hbs5 hbsn HT0 HTx H1 H2 H3 HB b1 b2 k5
  go_enter Tryz.func57,Tryz.ntmps57
  go_wp2_with fail
  refine Calls.mono (HF3.out _ _ HA.out) ?_
  rintro e w1 ⟨rfl,hr⟩
  have hz1:=HN.out.ex hr.ex (by omega)
  have hR1:=HA.out.then hr
  obtain ⟨⟨d0,d1,d2,d3⟩,g1,g2,g3⟩:=four_cells hR1.at_
  rw [HFN.out] at d3
  have d3':w1.cell? ⟨rb,3,none⟩=some (.int .i64 512):=d3
  have hR2:=hR1.set3 513
  have HR2:Hid (Rd T rb u w0 (beg s) (w1.setCell ⟨rb,3,none⟩ (.int .i64 513))):=by
   show Rd _ _ _ _ _ _
   rw [HBS.out]
   exact hR2
  have HZ2:=hid_of (hz1.ex ((La.Ex.refl rb w1).set 3 (.int .i64 513)) (by omega))
  clear hr hz1 hR1 hR2 d3 HA HN HF3 c0 c1 c2 c3 f1 f2 f3 kn HFN
  go_upto_region 4 with fail
  generalize w1.setCell ⟨rb,3,none⟩ (.int .i64 513)=W2 at *
  clear d0 d1 d2 d3' g1 g2 g3
  go_wp2_with fail
  refine Calls.mono (HRe.out _ HR2.out) ?_
  rintro e w3 ⟨rfl,m,rfl⟩
  have HR3:=hid_of (HR2.out.below (bel_dn (Below.refl _ _) m))
  have HZ3:=hid_of (HZ2.out.below (bel_dn (Below.refl _ _) m))
  clear HR2 HZ2 HRe
  generalize W2.drewN m=w3 at *
  go_wp2_with fail
  refine Calls.mono (HBg.out _) ?_
  rintro e w4 ⟨rfl,rfl⟩
  have ca:=(four_cells HR3.out.at_).1.2.1
  clear HBg
  go_wp2_with fail
  refine Calls.mono (HF5.out _ _ HR3.out) ?_
  rintro e w5 ⟨rfl,hr⟩
  have hR5:=HR3.out.then hr
  have hZ5:=HZ3.out.ex hr.ex (by omega)
  obtain ⟨z0,z1,z2,z3,z4,z5,z6,z7⟩:=eight hZ5
  have zf:=eight_f hZ5
  obtain ⟨p1,p2,p3⟩:=put_res hZ5 hR5 (by omega) (by omega) (by omega) (RV.zero _ _)
  have HH:=hid_of p1
  have HE:=hid_of (HF.out _ p2 p3)
  clear hr hR5 hZ5 p1 p2 p3 HR3 HZ3 HF HF5 ca
  go_wp2_with fail
  refine bodyPost_ret (results_cell_row (P:=Tryz.prog) rfl _ _ w.heap.size 61 _ (0,0) _ rfl HH.out Tryz.underlying61 rfl (by kernel_rfl)) rfl ?_
  exact HE.out
 ·have kn:((s.n:Int) == 512)=false:=by rw [beq_eq_false_iff_ne];omega
  have hbs:=hbsn k5
  have hw1:IntKind.i64.wrap ((s.n:Int)+1)=((s.n+1:Nat):Int):=by rw [IntKind.wrap_i64];omega
  have HR2:Hid (Rd T rb u w0 (beg s) ((w.setCell ⟨rb,3,none⟩ (.int .i64 ((s.n+1:Nat):Int))).alloc (.cells (rc 0 0 [] (.slice none 0 0) 0 0 0 (.slice none 0 0)) 61))):=by
   show Rd _ _ _ _ _ _
   rw [hbs]
   exact (HH0.out.set3 (s.n+1)).below (bel1 _ _)
  have hz2:=new_1 (w.setCell ⟨rb,3,none⟩ (.int .i64 ((s.n+1:Nat):Int))) (.cells (rc 0 0 [] (.slice none 0 0) 0 0 0 (.slice none 0 0)) 61)
  rw [show (w.setCell ⟨rb,3,none⟩ (.int .i64 ((s.n+1:Nat):Int))).heap.size=w.heap.size by simp [World.setCell]] at hz2
  have HZ2:Hid (Z8 w.heap.size ((w.setCell ⟨rb,3,none⟩ (.int .i64 ((s.n+1:Nat):Int))).alloc (.cells (rc 0 0 [] (.slice none 0 0) 0 0 0 (.slice none 0 0)) 61))):=hz2
  clear hB5 hbs5 hbsn hbs k5 HA HN HF3 HH0 hz2
  generalize hq:s.n+1=q at *
  clear hq
  go_enter Tryz.func57,Tryz.ntmps57
  go_upto_region 4 with fail
  generalize hW2:(w.setCell ⟨rb,3,none⟩ (.int .i64 (q:Int))).alloc (.cells (rc 0 0 [] (.slice none 0 0) 0 0 0 (.slice none 0 0)) 61)=W2 at *
  clear c0 c1 c2 c3 f1 f2 f3 hW2
  go_wp2_with fail
  refine Calls.mono (HRe.out _ HR2.out) ?_
  rintro e w3 ⟨rfl,m,rfl⟩
  have HR3:=hid_of (HR2.out.below (bel_dn (Below.refl _ _) m))
  have HZ3:=hid_of (HZ2.out.below (bel_dn (Below.refl _ _) m))
  clear HR2 HZ2 HRe
  generalize W2.drewN m=w3 at *
  go_wp2_with fail
  refine Calls.mono (HBg.out _) ?_
  rintro e w4 ⟨rfl,rfl⟩
  clear HBg
  rcases HB.out with rfl | rfl | rfl | rfl
  ·have HF:=hid_of (HT0.out rfl)
   have ca:=(four_cells HR3.out.at_).1.2.1
   clear HB HT0 HTx H1 H2 H3
   go_wp2_with fail
   refine Calls.mono (HF5.out _ _ HR3.out) ?_
   rintro e w5 ⟨rfl,hr⟩
   have hR5:=HR3.out.then hr
   have hZ5:=HZ3.out.ex hr.ex (by omega)
   obtain ⟨z0,z1,z2,z3,z4,z5,z6,z7⟩:=eight hZ5
   have zf:=eight_f hZ5
   obtain ⟨p1,p2,p3⟩:=put_res hZ5 hR5 (by omega) (by omega) (by omega) (RV.zero _ _)
   have HH:=hid_of p1
   have HE:=hid_of (HF.out _ p2 p3)
   clear hr hR5 hZ5 p1 p2 p3 HR3 HZ3 HF HF5 ca
   go_wp2_with fail
   refine bodyPost_ret (results_cell_row (P:=Tryz.prog) rfl _ _ w.heap.size 61 _ (0,0) _ rfl HH.out Tryz.underlying61 rfl (by kernel_rfl)) rfl ?_
   exact HE.out
  ·have HC:=hid_of (H1.out rfl)
   clear HB HT0 H1 H2 H3 HF5
   go_wp2_with fail
   refine Calls.mono (HC.out _ HR3.out) ?_
   rintro e w5 ⟨t,v,rfl,hv,ht,hr⟩
   have hR5:=HR3.out.then hr
   have hZ5:=HZ3.out.ex hr.ex (by omega)
   have hlt:=HZ3.out.lt
   have hv':=hv.mono (B':=w.heap.size+1) (by omega)
   obtain ⟨k1,x1,nm1,la1,ln1,lc1,wi1,n1,d1,aa1,an1,ac1,rfl⟩:=hv.form
   obtain ⟨z0,z1,z2,z3,z4,z5,z6,z7⟩:=eight hZ5
   have zf:=eight_f hZ5
   obtain ⟨p1,p2,p3⟩:=put_res hZ5 hR5 (by omega) (by omega) (by omega) hv'
   have HH:=hid_of p1
   have HE:=hid_of (HTx.out _ _ _ p2 ht p3)
   clear hr hR5 hZ5 p1 p2 p3 HR3 HZ3 HTx HC hv hv' ht hlt
   go_wp2_with fail
   refine bodyPost_ret (results_cell_row (P:=Tryz.prog) rfl _ _ w.heap.size 61 _ (0,0) _ rfl HH.out Tryz.underlying61 rfl (by kernel_rfl)) rfl ?_
   exact HE.out
  ·have HC:=hid_of (H2.out rfl)
   clear HB HT0 H1 H2 H3 HF5
   go_wp2_with fail
   refine Calls.mono (HC.out _ HR3.out) ?_
   rintro e w5 ⟨t,v,rfl,hv,ht,hr⟩
   have hR5:=HR3.out.then hr
   have hZ5:=HZ3.out.ex hr.ex (by omega)
   have hlt:=HZ3.out.lt
   have hv':=hv.mono (B':=w.heap.size+1) (by omega)
   obtain ⟨k1,x1,nm1,la1,ln1,lc1,wi1,n1,d1,aa1,an1,ac1,rfl⟩:=hv.form
   obtain ⟨z0,z1,z2,z3,z4,z5,z6,z7⟩:=eight hZ5
   have zf:=eight_f hZ5
   obtain ⟨p1,p2,p3⟩:=put_res hZ5 hR5 (by omega) (by omega) (by omega) hv'
   have HH:=hid_of p1
   have HE:=hid_of (HTx.out _ _ _ p2 ht p3)
   clear hr hR5 hZ5 p1 p2 p3 HR3 HZ3 HTx HC hv hv' ht hlt
   go_wp2_with fail
   refine bodyPost_ret (results_cell_row (P:=Tryz.prog) rfl _ _ w.heap.size 61 _ (0,0) _ rfl HH.out Tryz.underlying61 rfl (by kernel_rfl)) rfl ?_
   exact HE.out
  ·have HC:=hid_of (H3.out rfl)
   clear HB HT0 H1 H2 H3 HF5
   go_wp2_with fail
   refine Calls.mono (HC.out _ HR3.out) ?_
   rintro e w5 ⟨t,v,rfl,hv,ht,hr⟩
   have hR5:=HR3.out.then hr
   have hZ5:=HZ3.out.ex hr.ex (by omega)
   have hlt:=HZ3.out.lt
   have hv':=hv.mono (B':=w.heap.size+1) (by omega)
   obtain ⟨k1,x1,nm1,la1,ln1,lc1,wi1,n1,d1,aa1,an1,ac1,rfl⟩:=hv.form
   obtain ⟨z0,z1,z2,z3,z4,z5,z6,z7⟩:=eight hZ5
   have zf:=eight_f hZ5
   obtain ⟨p1,p2,p3⟩:=put_res hZ5 hR5 (by omega) (by omega) (by omega) hv'
   have HH:=hid_of p1
   have HE:=hid_of (HTx.out _ _ _ p2 ht p3)
   clear hr hR5 hZ5 p1 p2 p3 HR3 HZ3 HTx HC hv hv' ht hlt
   go_wp2_with fail
   refine bodyPost_ret (results_cell_row (P:=Tryz.prog) rfl _ _ w.heap.size 61 _ (0,0) _ rfl HH.out Tryz.underlying61 rfl (by kernel_rfl)) rfl ?_
   exact HE.out
theorem rule_any {T:List UInt8} {rb:Nat} {u:World} (PR:List UInt8→Option Nat) (he:Env u):∀ f,f≤512→∀ s,(∀ z,hitF PR T f s z→PrAt PR u (rowF isNm T z))→RecAt T rb u f (rulF PR T f) s
 | 0,hf=>fun _ hPR _ _ h ho hc=>rule_step hf (fun _ k=>absurd k (by omega)) (fun _ k=>absurd k (by omega)) h ho hc he fun k=>hPR _ ⟨k,rfl⟩
 | f+1,hf=>fun _ hPR _ _ h ho hc=>rule_step hf (fun f' k=>by
   have e:f=f':=by omega
   subst e
   exact rul_ok PR f (by omega)) (fun f' k z hz=>by
   have e:f=f':=by omega
   subst e
   exact rule_any PR he f (by omega) z fun y hy=>hPR y (Or.inr ⟨z,hz,hy⟩)) h ho hc he fun k=>hPR _ (Or.inl ⟨k,rfl⟩)
end Go.Proofs.YtlgkfeeclgcgbaaGreatDoor.Ru
/- RULES: THE READER: whole, Parse. Own work of the verifier. -/
set_option maxHeartbeats 2000000
namespace Go.Proofs.YtlgkfeeclgcgbaaGreatDoor.Ru
open Go.RowKit Me
def whlF (PR:List UInt8→Option Nat) (T:List UInt8) (s:St):RT × St :=
 let q:=rulF PR T 512 s
 (q.1,if rst T q.2=[] then q.2 else fl q.2 5 q.2.a)
theorem cf0:Cf 512 ⟨0,0,0⟩:=⟨fun _=>⟨by decide,by decide⟩,fun h=>absurd rfl h⟩
theorem whole_any {T:List UInt8} {rb:Nat} {u w0:World} (PR:List UInt8→Option Nat) (he:Env u) {s:St} (hPR:∀ z,hitF PR T 512 s z→PrAt PR u (rowF isNm T z)) {w:World} (h:Rd T rb u w0 s w) (ho:Ok T s) (hc:Cf 512 s) :
  Calls Tryz.prog 40 #[.pointer (some ⟨rb,0,none⟩)] w fun e w'=>TellR T rb u w0 w.heap.size (whlF PR T s) e w':=by
 have hb1:=bel1 w (.cells (rc 0 0 [] (.slice none 0 0) 0 0 0 (.slice none 0 0)) 61)
 have hn1:Z8 w.heap.size (w.alloc (.cells (rc 0 0 [] (.slice none 0 0) 0 0 0 (.slice none 0 0)) 61)):=new_1 w _
 have HA:=hid_of (h.below hb1)
 have HN:=hid_of hn1
 have hrb:=h.lt
 have hu:=h.st.size
 have hw0:=h.ex.size
 have hm:=rul_ok (T:=T) PR 512 (Nat.le_refl _) s ho hc
 have HR:Hid (∀ W,Rd T rb u w0 s W→Calls Tryz.prog 57 #[.pointer (some ⟨rb,0,none⟩)] W fun e w'=>TellR T rb u W W.heap.size (rulF PR T 512 s) e w'):=fun W hr=>rule_any PR he 512 (Nat.le_refl _) s hPR W W hr.re ho hc
 have HTx:Hid (∀ t v S W,S=(whlF PR T s).2→RV w.heap.size W t v→((rulF PR T 512 s).2.e=0→t=(rulF PR T 512 s).1)→Rd T rb u w0 S W→TellR T rb u w0 w.heap.size (whlF PR T s) (.returned v) W):=fun t v S W hS hv ht hr=>by
  subst hS
  refine ⟨t,v,rfl,hv,fun e=>ht ?_,hr⟩
  unfold whlF at e
  dsimp only at e
  split at e
  ·exact e
  ·exact fl_e0 _ _ _ e
 have hW2:(whlF PR T s).2=if rst T (rulF PR T 512 s).2=[] then (rulF PR T 512 s).2 else fl (rulF PR T 512 s).2 5 (rulF PR T 512 s).2.a:=rfl
 generalize whlF PR T s=Q at *
 generalize rulF PR T 512 s=q at *
 have HRe:Hid (∀ W,Rd T rb u w0 q.2 W→Calls Tryz.prog 58 #[.pointer (some ⟨rb,0,none⟩)] W fun e w'=>e=.returned (.string ⟨(rst T q.2).toArray⟩)∧∃ n,w'=W.drewN n):=fun W h=>rest_any h hm.ok
 have HF5:Hid (∀ a W,Rd T rb u w0 q.2 W→Calls Tryz.prog 59 #[.pointer (some ⟨rb,0,none⟩),.int .i64 5,.int .i64 ((a:Nat):Int)] W fun r w'=>r=.returned (.tuple #[])∧Rd T rb u W (fl q.2 5 a) w'):=fun a W h=>fail_any h.re 5 a
 have sF:=store_f
 clear h ho hc he hPR hb1 hn1 hm
 generalize rst T q.2=R at *
 go_enter Tryz.func40,Tryz.ntmps40
 go_wp2_with fail
 generalize w.alloc (.cells (rc 0 0 [] (.slice none 0 0) 0 0 0 (.slice none 0 0)) 61)=W0 at *
 refine Calls.mono (HR.out _ HA.out) ?_
 rintro e w2 ⟨t1,v1,rfl,hv1,ht1,hr⟩
 have hz2:=HN.out.ex hr.ex (by omega)
 have hlt:=HN.out.lt
 have hv1':=hv1.mono (B':=w.heap.size+1) (by omega)
 obtain ⟨k1,x1,nm1,la1,ln1,lc1,wi1,n1,d1,aa1,an1,ac1,rfl⟩:=hv1.form
 have HT1:=hid_of ht1
 have hb:=bel1 w2 (.cells (rc k1 x1 nm1 (.slice la1 ln1 lc1) wi1 n1 d1 (.slice aa1 an1 ac1)) 61)
 have HR2:=hid_of ((HA.out.then hr).below hb)
 have hlt2:=hz2.lt
 have HP:=hid_of (P1.mk (g1:=w2.heap.size) (hz2.below hb) (hv1'.below hb) (new_1 w2 (.cells (rc k1 x1 nm1 (.slice la1 ln1 lc1) wi1 n1 d1 (.slice aa1 an1 ac1)) 61)))
 clear hv1 hv1' ht1 hr HA HN hb HR hlt hz2
 go_upto_region 2 with fail
 generalize w2.alloc (.cells (rc k1 x1 nm1 (.slice la1 ln1 lc1) wi1 n1 d1 (.slice aa1 an1 ac1)) 61)=W3 at *
 generalize w2.heap.size=g1 at *
 go_wp2_with fail
 refine Calls.mono (HRe.out _ HR2.out) ?_
 rintro e w4 ⟨rfl,m,rfl⟩
 have HR4:=hid_of (HR2.out.below (bel_dn (Below.refl _ _) m))
 have HP4:=hid_of (HP.out.below (bel_dn (Below.refl _ _) m))
 clear HR2 HP HRe
 generalize W3.drewN m=w4 at *
 by_cases k:R=[]
 ·have hk:(R == [])=true:=beq_iff_eq.2 k
  rw [if_pos k] at hW2
  obtain ⟨y0,y1,y2,y3,y4,y5,y6,y7⟩:=eight HP4.out.bx
  obtain ⟨z0,z1,z2,z3,z4,z5,z6,z7⟩:=eight HP4.out.z
  have zf:=eight_f HP4.out.z
  obtain ⟨p1,p2,p3⟩:=put_res HP4.out.z HR4.out (by omega) (by omega) (by omega) HP4.out.rv
  have HH:=hid_of p1
  have HE:=hid_of (HTx.out _ _ _ _ hW2.symm p2 HT1.out p3)
  clear p1 p2 p3 HR4 HP4 HTx HT1 hW2 k HF5
  go_wp2_with fail
  refine bodyPost_ret (results_cell_row (P:=Tryz.prog) rfl _ _ w.heap.size 61 _ (0,0) _ rfl HH.out Tryz.underlying61 rfl (by kernel_rfl)) rfl ?_
  exact HE.out
 ·have hk:(R == [])=false:=beq_eq_false_iff_ne.2 k
  rw [if_neg k] at hW2
  have ca:=(four_cells HR4.out.at_).1.2.1
  have HW2:=hid_of hW2
  clear hW2 k
  go_wp2_with fail
  refine Calls.mono (HF5.out _ _ HR4.out) ?_
  rintro e w5 ⟨rfl,hr⟩
  have hR5:=HR4.out.then hr
  have hP5:=HP4.out.ex hr.ex hrb hlt2
  obtain ⟨y0,y1,y2,y3,y4,y5,y6,y7⟩:=eight hP5.bx
  obtain ⟨z0,z1,z2,z3,z4,z5,z6,z7⟩:=eight hP5.z
  have zf:=eight_f hP5.z
  obtain ⟨p1,p2,p3⟩:=put_res hP5.z hR5 (by omega) (by omega) (by omega) hP5.rv
  have HH:=hid_of p1
  have HE:=hid_of (HTx.out _ _ _ _ HW2.out.symm p2 HT1.out p3)
  clear p1 p2 p3 HR4 HP4 HTx HT1 HW2 HF5 hr hR5 hP5 ca
  go_wp2_with fail
  refine bodyPost_ret (results_cell_row (P:=Tryz.prog) rfl _ _ w.heap.size 61 _ (0,0) _ rfl HH.out Tryz.underlying61 rfl (by kernel_rfl)) rfl ?_
  exact HE.out
theorem results_ctt {P:Program} {fn:Func} {p a b:Tmp} {ty:TypeId} (h:fn.results=#[.cell p ty,.tmp a,.tmp b]) (tmps:Array Value) (w:World) (g:Nat) (t:TypeId) (cs:Array Value) (fr:Nat × Nat) (d:TypeDesc)
  (hp:tmps.getD p undef=.pointer (some ⟨g,0,none⟩)) (hg:w.heap[g]? =some (.cells cs t fr))
  (hu:P.underlying ty=some d) (hd:(match d with | .struct _ | .array _ _=>true | _=>false)=true) (hi:(P.info? ty).map (·.size)=some cs.size) :
  (results fn tmps).run P w=.ok (.tuple #[.agg cs,tmps.getD a undef,tmps.getD b undef]) w:=by
 have hp':tmps[p]?.getD undef=.pointer (some ⟨g,0,none⟩):=by simpa using hp
 simp [results,h,hp',asAddr,run_loadVar_row w g t ty cs fr d hg hu hd hi,Result.andThen]
def PsQ (PR:List UInt8→Option Nat) (ck:RT→Nat) (T:List UInt8) (B:Nat) (e:Ending) (W:World):Prop :=
 (∃ (z a:Nat),z≠0∧e=.returned (.tuple #[rx 0 0 [] (.slice none 0 0) 0 0 0 (.slice none 0 0),.int .i64 (z:Int),.int .i64 (a:Int)])∧((65536 < T.length∧z=4∧a=0)∨(T.length≤65536∧z=(whlF PR T ⟨0,0,0⟩).2.e∧a=(whlF PR T ⟨0,0,0⟩).2.a)∨(T.length≤65536∧(whlF PR T ⟨0,0,0⟩).2.e=0∧z=ck (whlF PR T ⟨0,0,0⟩).1∧a=0))) ∨
 (T.length≤65536∧(whlF PR T ⟨0,0,0⟩).2.e=0∧ck (whlF PR T ⟨0,0,0⟩).1=0∧∃ v,e=.returned (.tuple #[v,.int .i64 0,.int .i64 0])∧RV B W (whlF PR T ⟨0,0,0⟩).1 v)
def CkAt (ck:RT→Nat) (u:World) (t:RT):Prop:=∀ W B v,Below u.heap.size u W→RV B W t v→Calls Tryz.prog 41 #[v] W fun e w'=>e=.returned (.int .i64 (ck t:Int))∧Below W.heap.size W w'
end Go.Proofs.YtlgkfeeclgcgbaaGreatDoor.Ru
/- RULES: Parse. Own work of the verifier. -/
set_option maxRecDepth 100000
set_option maxHeartbeats 1000000
namespace Go.Proofs.YtlgkfeeclgcgbaaGreatDoor.Ru
open Go.RowKit Me
theorem parse_any (PR:List UInt8→Option Nat) (ck:RT→Nat) (T:List UInt8) (hTl:T.length≤9223372036854775807) (w:World) (he:Env w) (hPR:T.length≤65536→∀ u,Below w.heap.size w u→∀ z,hitF PR T 512 ⟨0,0,0⟩ z→PrAt PR u (rowF isNm T z)) (hCk:T.length≤65536→(whlF PR T ⟨0,0,0⟩).2.e=0→CkAt ck w (whlF PR T ⟨0,0,0⟩).1) :
  Calls Tryz.prog 25 #[.string ⟨T.toArray⟩] w fun e w'=>PsQ PR ck T w.heap.size e w'∧Below w.heap.size w w':=by
 obtain ⟨W0,hW0⟩:∃ W0,W0=w.alloc (.cells (rc 0 0 [] (.slice none 0 0) 0 0 0 (.slice none 0 0)) 61):=⟨_,rfl⟩
 have hb0:Below w.heap.size w W0:=by rw [hW0];exact bel1 w _
 have hz0:Z8 w.heap.size W0:=by rw [hW0];exact new_1 w _
 have hs0:W0.heap.size=w.heap.size+1:=by rw [hW0];simp
 have sF:=store_f
 by_cases hT:T.length≤65536
 ·obtain ⟨W1,hW1⟩:∃ W1,W1=W0.alloc (.cells #[.string ⟨T.toArray⟩,.int .i64 0,.int .i64 0,.int .i64 0] 120):=⟨_,rfl⟩
  have hb1:Below W0.heap.size W0 W1:=by rw [hW1];exact bel1 W0 _
  have hR1:Rd T W0.heap.size W0 W1 ⟨0,0,0⟩ W1:=⟨hb1,Nat.le_refl _,La.Ex.refl _ _,by rw [hW1];simp,by rw [hW1];exact new_1 W0 _⟩
  have hz1:=hz0.below hb1
  have HWh:La.HidC _ _ _ _ _:=whole_any PR (he.below hb0) (hPR hT W0 hb0) hR1 ⟨Nat.zero_le _,by decide,hT⟩ cf0
  have HCk:Hid ((whlF PR T ⟨0,0,0⟩).2.e=0→∀ W B v,Below w.heap.size w W→RV B W (whlF PR T ⟨0,0,0⟩).1 v→Calls Tryz.prog 41 #[v] W fun e w'=>e=.returned (.int .i64 (ck (whlF PR T ⟨0,0,0⟩).1:Int))∧Below W.heap.size W w'):=fun h W B v hb hv=>hCk hT h W B v hb hv
  have HP1:Hid (∀ (z a:Nat) W,z≠0→z=(whlF PR T ⟨0,0,0⟩).2.e→a=(whlF PR T ⟨0,0,0⟩).2.a→PsQ PR ck T w.heap.size (.returned (.tuple #[rx 0 0 [] (.slice none 0 0) 0 0 0 (.slice none 0 0),.int .i64 (z:Int),.int .i64 (a:Int)])) W):=fun z a W h1 h2 h3=>Or.inl ⟨z,a,h1,rfl,Or.inr (Or.inl ⟨hT,h2,h3⟩)⟩
  have HP2:Hid (∀ (z:Nat) W,z≠0→(whlF PR T ⟨0,0,0⟩).2.e=0→z=ck (whlF PR T ⟨0,0,0⟩).1→PsQ PR ck T w.heap.size (.returned (.tuple #[rx 0 0 [] (.slice none 0 0) 0 0 0 (.slice none 0 0),.int .i64 (z:Int),.int .i64 0])) W):=fun z W h1 h2 h3=>Or.inl ⟨z,0,h1,rfl,Or.inr (Or.inr ⟨hT,h2,h3,rfl⟩)⟩
  have HP3:Hid (∀ v W,(whlF PR T ⟨0,0,0⟩).2.e=0→ck (whlF PR T ⟨0,0,0⟩).1=0→RV w.heap.size W (whlF PR T ⟨0,0,0⟩).1 v→PsQ PR ck T w.heap.size (.returned (.tuple #[v,.int .i64 0,.int .i64 0])) W):=fun v W h1 h2 h3=>Or.inr ⟨hT,h1,h2,v,rfl,h3⟩
  have hT':(T.length:Int)≤65536:=by omega
  have HB1:=hid_of (bt hb0 hb1)
  have HZ1:=hid_of hz1
  have HR1:=hid_of hR1
  have HW0:=hid_of hW0
  have HW1:=hid_of hW1
  have hs1:W1.heap.size=w.heap.size+2:=by rw [hW1];simp;omega
  clear he hPR hCk hb0 hz0 hb1 hR1 hz1 hW0 hW1 hT
  go_enter Tryz.func25,Tryz.ntmps25
  go_upto_region 4 with fail
  generalize hq:whlF PR T ⟨0,0,0⟩=Q at *
  clear hq
  rw [← HW0.out]
  have e1:W0.alloc (.cells #[.string ⟨T.toArray⟩,.int .i64 0,.int .i64 0,.int .i64 0] 120)=W1:=HW1.out.symm
  have e2:W0.heap.size=w.heap.size+1:=hs0
  rw [e2] at HWh HR1
  rw [e1]
  clear e1 e2 HW0 HW1
  go_wp2_with fail
  refine Calls.mono HWh.out ?_
  rintro e w2 ⟨t1,v1,rfl,hv1,ht1,hr⟩
  have hz2:=HZ1.out.ex hr.ex (by omega)
  have hv1':=hv1.mono (B':=w.heap.size+1) (by omega)
  obtain ⟨k1,x1,nm1,la1,ln1,lc1,wi1,n1,d1,aa1,an1,ac1,rfl⟩:=hv1.form
  have HT1:=hid_of ht1
  have hb:=bel1 w2 (.cells (rc k1 x1 nm1 (.slice la1 ln1 lc1) wi1 n1 d1 (.slice aa1 an1 ac1)) 61)
  have hR2:=hr.below hb
  have hlt2:=hz2.lt
  have HP:=hid_of (P1.mk (g1:=w2.heap.size) (hz2.below hb) (hv1'.below hb) (new_1 w2 (.cells (rc k1 x1 nm1 (.slice la1 ln1 lc1) wi1 n1 d1 (.slice aa1 an1 ac1)) 61)))
  have hBw:Below w.heap.size w (w2.alloc (.cells (rc k1 x1 nm1 (.slice la1 ln1 lc1) wi1 n1 d1 (.slice aa1 an1 ac1)) 61)):=HB1.out.trans (hR2.ex.below (by omega) (by omega))
  have HBw:=hid_of hBw
  have HR2:=hid_of hR2
  clear hv1 hv1' ht1 hr HZ1 hb hz2 HWh HR1 hR2 hBw HB1
  go_upto_region 5 with fail
  generalize w2.alloc (.cells (rc k1 x1 nm1 (.slice la1 ln1 lc1) wi1 n1 d1 (.slice aa1 an1 ac1)) 61)=W3 at *
  generalize w2.heap.size=g1 at *
  obtain ⟨⟨c0,c1,c2,c3⟩,-⟩:=four_cells HR2.out.at_
  by_cases k:Q.2.e=0
  ·have hk:((Q.2.e:Int) == 0)=true:=by rw [beq_iff_eq];omega
   have HK:=hid_of k
   have ht:=HT1.out k
   subst ht
   obtain ⟨y0,y1,y2,y3,y4,y5,y6,y7⟩:=eight HP.out.bx
   have D:La.HidC _ _ _ _ _:=HCk.out k W3 _ _ HBw.out HP.out.rv
   clear HCk HP1 k HT1
   go_wp2_with fail
   refine Calls.mono D.out ?_
   rintro e w4 ⟨rfl,hb4⟩
   have hP4:=HP.out.below hb4
   have hB4:=HBw.out.trans (hb4.mono (by have:=HBw.out.size;omega))
   clear D HP HR2 HBw hb4 y0 y1 y2 y3 y4 y5 y6 y7 c0 c1 c2 c3
   obtain ⟨z0,z1,z2,z3,z4,z5,z6,z7⟩:=eight hP4.z
   have zf:=eight_f hP4.z
   by_cases kc:ck Q.1=0
   ·have hkc:((ck Q.1:Int) == 0)=true:=by rw [beq_iff_eq];omega
    obtain ⟨y0,y1,y2,y3,y4,y5,y6,y7⟩:=eight hP4.bx
    have p1:=put8_heap hP4.z (.int .i64 k1) (.float .f64 x1) (.string ⟨nm1.toArray⟩) (.slice la1 ln1 lc1) (.int .i64 wi1) (.int .i64 n1) (.int .i64 d1) (.slice aa1 an1 ac1)
    have hx:=put8_one w4 w.heap.size (.int .i64 k1) (.float .f64 x1) (.string ⟨nm1.toArray⟩) (.slice la1 ln1 lc1) (.int .i64 wi1) (.int .i64 n1) (.int .i64 d1) (.slice aa1 an1 ac1)
    obtain ⟨W9,hW9⟩:∃ W9,W9=put8 w4 w.heap.size (.int .i64 k1) (.float .f64 x1) (.string ⟨nm1.toArray⟩) (.slice la1 ln1 lc1) (.int .i64 wi1) (.int .i64 n1) (.int .i64 d1) (.slice aa1 an1 ac1):=⟨_,rfl⟩
    rw [← hW9] at p1 hx
    have HW9:=hid_of hW9
    clear hW9
    have HH:=hid_of p1
    have HE:=hid_of (HP3.out _ _ HK.out kc ((hP4.rv.ex hx (by omega)).mono (by omega)))
    have HBf:=hid_of (hB4.trans (hx.below (Nat.le_refl _) (by have:=hB4.size;omega)))
    clear hx p1 hP4 hB4 HP2 HP3 HK kc hs0 hs1 hlt2 hTl
    generalize ck Q.1=c at *
    go_wp2_with fail
    obtain rfl:=HW9.out
    (try simp only [Exit.inBlock,Exit.then]);refine bodyPost_ret (results_ctt rfl _ _ w.heap.size 61 _ (0,0) _ rfl HH.out Tryz.underlying61 rfl (by kernel_rfl)) rfl ?_
    exact ⟨HE.out,HBf.out⟩
   ·have hkc:((ck Q.1:Int) == 0)=false:=by rw [beq_eq_false_iff_ne];omega
    have p1:=put8_heap hP4.z (.int .i64 0) (.float .f64 0) (.string ⟨#[]⟩) (.slice none 0 0) (.int .i64 0) (.int .i64 0) (.int .i64 0) (.slice none 0 0)
    have hx:=put8_one w4 w.heap.size (.int .i64 0) (.float .f64 0) (.string ⟨#[]⟩) (.slice none 0 0) (.int .i64 0) (.int .i64 0) (.int .i64 0) (.slice none 0 0)
    obtain ⟨W9,hW9⟩:∃ W9,W9=put8 w4 w.heap.size (.int .i64 0) (.float .f64 0) (.string ⟨#[]⟩) (.slice none 0 0) (.int .i64 0) (.int .i64 0) (.int .i64 0) (.slice none 0 0):=⟨_,rfl⟩
    rw [← hW9] at p1 hx
    have HW9:=hid_of hW9
    clear hW9
    have HH:=hid_of p1
    have HE:=hid_of (HP2.out _ W9 kc HK.out rfl)
    have HBf:=hid_of (hB4.trans (hx.below (Nat.le_refl _) (by have:=hB4.size;omega)))
    clear hx p1 hP4 hB4 HP2 HP3 HK kc hs0 hs1 hlt2 hTl
    generalize ck Q.1=c at *
    go_wp2_with fail
    obtain rfl:=HW9.out
    (try simp only [Exit.inBlock,Exit.then]);refine bodyPost_ret (results_ctt rfl _ _ w.heap.size 61 _ (0,0) _ rfl HH.out Tryz.underlying61 rfl (by kernel_rfl)) rfl ?_
    exact ⟨HE.out,HBf.out⟩
  ·have hk:((Q.2.e:Int) == 0)=false:=by rw [beq_eq_false_iff_ne];omega
   obtain ⟨z0,z1,z2,z3,z4,z5,z6,z7⟩:=eight HP.out.z
   have zf:=eight_f HP.out.z
   have HE0:Hid (∀ W,PsQ PR ck T w.heap.size (.returned (.tuple #[rx 0 0 [] (.slice none 0 0) 0 0 0 (.slice none 0 0),.int .i64 (Q.2.e:Int),.int .i64 (Q.2.a:Int)])) W):=fun W=>HP1.out _ _ W k rfl rfl
   have p1:=put8_heap HP.out.z (.int .i64 0) (.float .f64 0) (.string ⟨#[]⟩) (.slice none 0 0) (.int .i64 0) (.int .i64 0) (.int .i64 0) (.slice none 0 0)
   have hx:=put8_one W3 w.heap.size (.int .i64 0) (.float .f64 0) (.string ⟨#[]⟩) (.slice none 0 0) (.int .i64 0) (.int .i64 0) (.int .i64 0) (.slice none 0 0)
   obtain ⟨W9,hW9⟩:∃ W9,W9=put8 W3 w.heap.size (.int .i64 0) (.float .f64 0) (.string ⟨#[]⟩) (.slice none 0 0) (.int .i64 0) (.int .i64 0) (.int .i64 0) (.slice none 0 0):=⟨_,rfl⟩
   rw [← hW9] at p1 hx
   have HW9:=hid_of hW9
   clear hW9
   have HH:Hid (W9.drew.heap[w.heap.size]? =some (.cells (rc 0 0 [] (.slice none 0 0) 0 0 0 (.slice none 0 0)) 61)):=p1
   have HBf:=hid_of (HBw.out.trans (hx.below (Nat.le_refl _) (by have:=HBw.out.size;omega)))
   clear HP1 HP2 HP3 HCk HT1 HP HBw HR2 p1 hx k hs0 hs1 hlt2 hTl
   generalize Q.2.e=qe at *
   generalize Q.2.a=qa at *
   go_wp2_with fail
   go_region
   go_wp2_with fail
   obtain rfl:=HW9.out
   (try simp only [Exit.inBlock,Exit.then]);refine bodyPost_ret (results_ctt rfl _ _ w.heap.size 61 _ (0,0) _ rfl HH.out Tryz.underlying61 rfl (by kernel_rfl)) rfl ?_
   exact ⟨HE0.out _,bel_drewB HBf.out⟩
 ·have hT':¬ (T.length:Int)≤65536:=by omega
  have hgt:(65536:Int) < (T.length:Int):=by omega
  have hTl':(T.length:Int)≤9223372036854775807:=by omega
  have HE0:Hid (∀ W,PsQ PR ck T w.heap.size (.returned (.tuple #[rx 0 0 [] (.slice none 0 0) 0 0 0 (.slice none 0 0),.int .i64 4,.int .i64 0])) W):=fun W=>Or.inl ⟨4,0,by decide,rfl,Or.inl ⟨by omega,rfl,rfl⟩⟩
  have HB0:=hid_of hb0
  have HZ0:=hid_of hz0
  have HW0:=hid_of hW0
  clear he hPR hCk hb0 hz0 hW0 hT hs0 hTl hT'
  go_enter Tryz.func25,Tryz.ntmps25
  go_wp2_with fail
  obtain rfl:=HW0.out
  (try simp only [Exit.inBlock,Exit.then]);refine bodyPost_ret (results_ctt rfl _ _ w.heap.size 61 _ (0,0) _ rfl HZ0.out Tryz.underlying61 rfl (by kernel_rfl)) rfl ?_
  exact ⟨HE0.out _,HB0.out⟩
end Go.Proofs.YtlgkfeeclgcgbaaGreatDoor.Ru
