/- RULES: THE READER: seriesLength, series. Own work of the verifier. -/
import Derived.Test.YtlgkfeeclgcgbaaGreatDoorZAU
import Derived.Test.YtlgkfeeclgcgbaaGreatDoorZAS
set_option maxRecDepth 100000
set_option maxHeartbeats 2000000
namespace Go.Proofs.YtlgkfeeclgcgbaaGreatDoor.Ru
open Go.RowKit Me
theorem sLf_le (l:List UInt8):∀ f q i,sLf l f q i≤l.length:=by
 intro f
 induction f with
 | zero=>intro q i;exact Nat.le_refl _
 | succ f ih =>
  intro q i
  unfold sLf
  split
  ·split
   ·exact ih _ _
   ·split
    ·exact ih _ _
    ·split
     ·omega
     ·exact ih _ _
  ·exact Nat.le_refl _
theorem sLen_le (l:List UInt8):sLen l≤l.length:=sLf_le l _ _ _
theorem slen_any (l:List UInt8) (hl:l.length≤65536) (w:World) :
  Calls Tryz.prog 129 #[.string ⟨l.toArray⟩] w fun e w'=>e=.returned (.int .i64 (sLen l:Int))∧w'=w:=by
 have hl':(l.length:Int)≤65536:=by omega
 obtain ⟨Z,hZ⟩:∃ Z,Z=sLen l:=⟨_,rfl⟩
 rw [← hZ]
 have HZ0:Hid (∃ f,l.length < 0+f∧Z=sLf l f false 0):=⟨l.length+1,by omega,hZ⟩
 have HPr:Hid (∀ i W,Calls Tryz.prog 110 #[.string ⟨(l.drop i).toArray⟩,.string ⟨#[44,32]⟩] W fun r w'=>r=.returned (.bool (La.preB (l.drop i) [44,32]))∧w'=W):=fun i W=>La.pre_any (l.drop i) [44,32] W
 clear hZ
 go_enter Tryz.func129,Tryz.ntmps129
 go_wp2_with fail
 go_loopw [3,4] (fun q a W=>∃ (b:Bool) (i:Nat),i≤l.length+1∧q=.bool b∧a=.int .i64 (i:Int)∧Hid (∃ f,l.length < i+f∧Z=sLf l f b i)∧W=w) (fun _ a _=>l.length+1 - (intOf a).toNat)
 case atStart=>exact ⟨false,0,by omega,rfl,rfl,HZ0,rfl⟩
 case round =>
  clear HZ0
  obtain ⟨b,i,hi,rfl,rfl,HK,hw⟩:=hrel
  subst wr
  obtain ⟨f,hf,hz⟩:=HK.out
  by_cases hlt:i < l.length
  ·have hlt':(i:Int) < (l.length:Int):=by omega
   obtain ⟨f,rfl⟩:∃ f',f=f'+1:=⟨f - 1,by omega⟩
   unfold sLf at hz
   rw [if_pos hlt] at hz
   have hB:i < (ByteArray.mk l.toArray).size:=by show i < l.toArray.size;simpa using hlt
   have hbe:(ByteArray.mk l.toArray)[i]'hB=l[i]:=rfl
   have hgd:l.getD i 0=l[i]:=by simp [List.getD,hlt]
   rw [hgd] at hz
   have hdr:=La.drop_bytes l i
   have hi1:(i:Int)≤(l.length:Int):=by omega
   have HPi:Hid (∀ W,_):=HPr.out i
   have w1:IntKind.i64.wrap ((i:Int)+1)=((i+1:Nat):Int):=by rw [IntKind.wrap_i64];omega
   have w2:IntKind.i64.wrap (((i+1:Nat):Int)+1)=((i+2:Nat):Int):=by rw [IntKind.wrap_i64];omega
   clear HK HPr hgd
   generalize l[i]=c at *
   by_cases g1:c.toNat=34
   ·have t1:((c.toNat:Int) == 34)=true:=by rw [beq_iff_eq];omega
    rw [if_pos g1] at hz
    have HN:Hid (∃ f,l.length < i+1+f∧Z=sLf l f (!b) (i+1)):=⟨f,by omega,hz⟩
    clear hz g1 HPi w2
    cases b
    all_goals
     as_aux_lemma =>
      go_wp2_with fail
      exact ⟨⟨_,i+1,by omega,rfl,by go_num,HN,trivial⟩,by simp [intOf];omega⟩
   ·have t1:((c.toNat:Int) == 34)=false:=by rw [beq_eq_false_iff_ne];omega
    rw [if_neg g1] at hz
    cases b
    ·rw [if_neg (by simp)] at hz
     cases hq:La.preB (l.drop i) [44,32]
     ·rw [hq] at HPi hz
      rw [if_neg (by simp)] at hz
      have HN:Hid (∃ f,l.length < i+1+f∧Z=sLf l f false (i+1)):=⟨f,by omega,hz⟩
      clear hz g1 hq w2
      as_aux_lemma =>
       go_wp2_with fail
       refine (HPi.out _).mono ?_
       rintro e w3 ⟨rfl,rfl⟩
       go_wp2_with fail
       exact ⟨⟨_,i+1,by omega,rfl,by go_num,HN,trivial⟩,by simp [intOf];omega⟩
     ·rw [hq] at HPi hz
      rw [if_pos (by simp)] at hz
      have HN:Hid (Z=i):=hz
      clear hz g1 hq w2 w1
      as_aux_lemma =>
       go_wp2_with fail
       refine (HPi.out _).mono ?_
       rintro e w3 ⟨rfl,rfl⟩
       go_wp2_with fail
       go_ret
       exact ⟨congrArg (fun z:Nat=>Ending.returned (Value.int .i64 (z:Int))) HN.out.symm,rfl⟩
    ·by_cases g2:c.toNat=92
     ·have t2:((c.toNat:Int) == 92)=true:=by rw [beq_iff_eq];omega
      rw [if_pos (by simp [g2])] at hz
      have HN:Hid (∃ f,l.length < i+2+f∧Z=sLf l f true (i+2)):=⟨f,by omega,hz⟩
      clear hz g1 g2 HPi
      as_aux_lemma =>
       go_wp2_with fail
       exact ⟨⟨_,i+2,by omega,rfl,by go_num,HN,trivial⟩,by simp [intOf];omega⟩
     ·have t2:((c.toNat:Int) == 92)=false:=by rw [beq_eq_false_iff_ne];omega
      rw [if_neg (by simp [g2]),if_neg (by simp)] at hz
      have HN:Hid (∃ f,l.length < i+1+f∧Z=sLf l f true (i+1)):=⟨f,by omega,hz⟩
      clear hz g1 g2 HPi w2
      as_aux_lemma =>
       go_wp2_with fail
       exact ⟨⟨_,i+1,by omega,rfl,by go_num,HN,trivial⟩,by simp [intOf];omega⟩
  ·have hlt':¬ (i:Int) < (l.length:Int):=by omega
   have HN:Hid (Z=l.length):=by
    show Z=_
    rw [hz]
    cases f with
    | zero=>rfl
    | succ f=>unfold sLf;rw [if_neg hlt]
   clear HK hz HPr
   as_aux_lemma =>
    go_wp2_with fail
    go_ret
    exact ⟨congrArg (fun z:Nat=>Ending.returned (Value.int .i64 (z:Int))) HN.out.symm,rfl⟩
end Go.Proofs.YtlgkfeeclgcgbaaGreatDoor.Ru
/- RULES: THE READER: series. Own work of the verifier. -/
set_option maxHeartbeats 2000000
namespace Go.Proofs.YtlgkfeeclgcgbaaGreatDoor.Ru
open Go.RowKit Me
theorem bh_nn (a b:List UInt8):0≤La.bhE a b:=by
 unfold La.bhE
 split
 ·decide
 ·split <;> decide
theorem tx_nn (a:List UInt8):0≤La.txE a:=by
 unfold La.txE
 split
 ·decide
 ·split <;> decide
theorem one_z {l:List UInt8} {p:Nat} {L:List La.Lb} {z:Int} {k:Nat} (_hp:p≤l.length) (h:La.oneR l p L=.error (z,k)):0≤z:=by
 have hrl:=La.rowN_le false (l.drop p)
 rw [List.length_drop] at hrl
 unfold La.oneR at h
 obtain ⟨n,hn⟩:∃ n,n=La.rowN false (l.drop p):=⟨_,rfl⟩
 rw [← hn] at h hrl
 split at h
 ·cases h;decide
 split at h
 ·cases h;decide
 split at h
 ·cases h;exact bh_nn _ _
 split at h
 ·cases h;decide
 rename_i g4
 have e4:(l.getD (p+n) 0).toNat=(61:UInt8).toNat:=by
  rcases Nat.decEq (l.getD (p+n) 0).toNat 61 with k | k
  ·exact absurd k g4
  ·exact k
 obtain ⟨_,l4⟩:=La.head_drop l (p+n) 61 e4 (by decide)
 split at h
 ·cases h;decide
 rename_i g5
 have e5:(l.getD (p+n+1) 0).toNat=(34:UInt8).toNat:=by
  rcases Nat.decEq (l.getD (p+n+1) 0).toNat 34 with k | k
  ·exact absurd k g5
  ·exact k
 obtain ⟨_,l5⟩:=La.head_drop l (p+n+1) 34 e5 (by decide)
 split at h
 ·rename_i e he
  cases h
  rw [La.val_err l (p+n+2) k z (by omega) he]
  decide
 ·split at h
  ·cases h;exact tx_nn _
  ·cases h
theorem labs_z:∀ (f:Nat) (l:List UInt8) (p:Nat) (L:List La.Lb) (z:Int) (k:Nat),p≤l.length→La.labsF f l p L=.error (z,k)→0≤z
 | 0,_,_,_,_,_,_,h=>by cases h;decide
 | f+1,l,p,L,z,k,hp,h=>by
  unfold La.labsF at h
  split at h
  ·rename_i e he
   cases h
   exact one_z hp he
  ·rename_i x j he
   have hj:=(La.one_read (c:=x.2) (a:=x.1) hp he).2.2.2.2.2
   split at h
   ·cases h
   ·split at h
    ·rename_i g
     refine labs_z f l (j+1) _ z k ?_ h
     rw [La.pre_one,decide_eq_true_eq] at g
     omega
    ·cases h;decide
theorem par_z (l:List UInt8) (z:Int) (k:Nat) (h:La.parR l=.error (z,k)):0≤z:=by
 have hrl:=La.rowN_le true l
 unfold La.parR at h
 split at h
 ·cases h;decide
 split at h
 ·cases h
 split at h
 ·cases h;decide
 rename_i g
 have g':La.preB (l.drop (La.rowN true l)) [123]=true:=by simpa using g
 rw [La.pre_one,decide_eq_true_eq] at g'
 split at h
 ·rename_i e he
  cases h
  exact labs_z 17 l _ [] z k (by omega) he
 ·split at h
  ·cases h
  ·cases h;decide
def LbV (B:Nat) (W:World) (v:Value) (L:List La.Lb):Prop:=∃ ao b o cap,v=.slice ao L.length cap∧(L≠[]→ao=some ⟨b,o,none⟩∧B≤b)∧L.length≤cap∧cap≤9223372036854775807∧(ao=none→cap=0)∧La.RowL W b o L
theorem LbV.of {B:Nat} {W:World} {v:Value} {L:List La.Lb} (h:La.OwnL B v L W):LbV B W v L:=by
 obtain ⟨ao,b,cap,rfl,hao,hr,h1,h2⟩:=h.open
 have hnc:ao=none→cap=0:=by
  rcases h.2 with ⟨e,h3⟩ | ⟨g,c,cur,hv,hg,-⟩
  ·cases L with
   | nil=>cases e;exact fun _=>rfl
   | cons a L=>cases e
  ·cases hv;exact fun k=>by cases k
 refine ⟨ao,b,0,cap,rfl,fun k=>⟨hao k,?_⟩,h1,h2,hnc,hr⟩
 rcases h.2 with ⟨e,h3⟩ | ⟨g,c,cur,hv,hg,-⟩
 ·cases L with
  | nil=>exact absurd rfl k
  | cons a L=>cases e
 ·have:=hao k
  rw [this] at hv
  cases hv
  exact hg
theorem LbV.nil (B:Nat) (W:World):LbV B W (.slice none 0 0) []:=⟨none,0,0,0,rfl,fun k=>absurd rfl k,Nat.le_refl _,by decide,fun _=>rfl,fun i hi=>by simp at hi⟩
theorem LbV.below {B:Nat} {W W1:World} {v:Value} {L:List La.Lb} (h:LbV B W v L) (hb:Below W.heap.size W W1):LbV B W1 v L:=by
 obtain ⟨ao,b,o,cap,rfl,h1,h2,h3,h5,h4⟩:=h
 exact ⟨ao,b,o,cap,rfl,h1,h2,h3,h5,h4.below hb⟩
theorem LbV.ex {B g:Nat} {W W1:World} {v:Value} {L:List La.Lb} (h:LbV B W v L) (hb:La.Ex g W W1) (hg:g < B):LbV B W1 v L:=by
 obtain ⟨ao,b,o,cap,rfl,h1,h2,h3,h5,h4⟩:=h
 refine ⟨ao,b,o,cap,rfl,h1,h2,h3,h5,?_⟩
 by_cases k:L=[]
 ·subst k;exact fun i hi=>by simp at hi
 ·exact hb.row (by have:=(h1 k).2;omega) h4
theorem LbV.mono {B B':Nat} {W:World} {v:Value} {L:List La.Lb} (h:LbV B W v L) (hB:B'≤B):LbV B' W v L:=by
 obtain ⟨ao,b,o,cap,rfl,h1,h2,h3,h5,h4⟩:=h
 exact ⟨ao,b,o,cap,rfl,fun k=>⟨(h1 k).1,Nat.le_trans hB (h1 k).2⟩,h2,h3,h5,h4⟩
def SeQ (T:List UInt8) (rb:Nat) (u w0:World) (B:Nat) (s:St) (e:Ending) (W:World):Prop:=∃ (n:List UInt8) (L:List La.Lb) (v:Value),e=.returned (.tuple #[.string ⟨n.toArray⟩,v])∧LbV B W v L∧((serF T s).2.2.e=0→n=(serF T s).1∧L=(serF T s).2.1)∧Rd T rb u w0 (serF T s).2.2 W
theorem Rd.exn {T:List UInt8} {rb:Nat} {u w:World} {s:St} {W:World} (h:Rd T rb u w s W) {B:Nat} {v:Value} {L:List La.Lb} (k:LbV B w v L) (hB:rb < B):LbV B W v L:=k.ex h.ex hB
theorem series_any {T:List UInt8} {rb:Nat} {u w0:World} {s:St} {w:World} (h:Rd T rb u w0 s w) (ho:Ok T s) :
  Calls Tryz.prog 103 #[.pointer (some ⟨rb,0,none⟩)] w fun e w'=>SeQ T rb u w0 w.heap.size s e w':=by
 have HR1:La.HidC _ _ _ _ _:=rest_any h ho
 have hrb:=h.lt
 have HRs:Hid (∀ W,Rd T rb u w0 s W→Calls Tryz.prog 58 #[.pointer (some ⟨rb,0,none⟩)] W fun e w'=>e=.returned (.string ⟨(rst T s).toArray⟩)∧∃ n,w'=W.drewN n):=fun W h=>rest_any h ho
 have hrT:=rst_le T s
 have hT:=ho.t
 have ha:=ho.a
 have HSl:Hid (∀ W,Calls Tryz.prog 129 #[.string ⟨(rst T s).toArray⟩] W fun e w'=>e=.returned (.int .i64 (sLen (rst T s):Int))∧w'=W):=fun W=>slen_any _ (by omega) W
 have hsl:=sLen_le (rst T s)
 have HPa:Hid (∀ W,Calls Tryz.prog 130 #[.string ⟨((rst T s).take (sLen (rst T s))).toArray⟩] W fun r w'=>La.TellsC ((rst T s).take (sLen (rst T s))) W.heap.size r w'∧Below W.heap.size W w'):=fun W=>La.cparse_any _ (by rw [List.length_take];omega) W
 have HPs:Hid (∀ s' W,Rd T rb u w0 s' W→Ok T s'→Calls Tryz.prog 101 #[.pointer (some ⟨rb,0,none⟩),.int .i64 (sLen (rst T s):Int)] W fun r w'=>r=.returned (.tuple #[])∧Rd T rb u W (ps s' (sLen (rst T s))) w'):=fun s' W h ho=>pass_any h.re ho _ (by omega)
 have HFl:Hid (∀ e a W,Rd T rb u w0 s W→Calls Tryz.prog 59 #[.pointer (some ⟨rb,0,none⟩),.int .i64 ((e:Nat):Int),.int .i64 ((a:Nat):Int)] W fun r w'=>r=.returned (.tuple #[])∧Rd T rb u W (fl s e a) w'):=fun e a W h=>fail_any h.re e a
 have HM:Hid (∀ s' W,Rd T rb u w0 s' W→Ok T s'→Calls Tryz.prog 95 #[.pointer (some ⟨rb,0,none⟩),.string ⟨#[44,32]⟩] W fun e w'=>e=.returned (.tuple #[])∧Rd T rb u W (mst T [44,32] s') w'):=fun s' W hr ho=>must_any hr.re ho [44,32] (by decide)
 have HOk:=hid_of ho
 have HOp:Hid (∀ s',Ok T s'→(s'.e=0→s'=s)→Ok T (ps s' (sLen (rst T s)))):=fun s' h k=>by
  by_cases e:s'.e=0
  ·rw [k e];exact ho.ps hsl
  ·rw [ps_err e];exact h
 have HEr:Hid (∀ z k,La.parR ((rst T s).take (sLen (rst T s)))=.error (z,k)→z≠0→∀ W,Rd T rb u w0 (mst T [44,32] (ps (fl s (if z.toNat=0 then 5 else z.toNat) (s.a+k)) (sLen (rst T s)))) W→SeQ T rb u w0 w.heap.size s (.returned (.tuple #[.string ⟨#[]⟩,.slice none 0 0])) W):=fun z k hp hz W hr=>by
  refine ⟨[],[],_,rfl,LbV.nil _ _,?_,?_⟩
  ·intro h0
   unfold serF at h0 ⊢
   dsimp only at h0 ⊢
   rw [hp]
   exact ⟨rfl,rfl⟩
  ·unfold serF
   dsimp only
   rw [hp]
   exact hr
 have HYe:Hid (∀ n L v W,La.parR ((rst T s).take (sLen (rst T s)))=.ok (n,L)→LbV w.heap.size W v L→Rd T rb u w0 (mst T [44,32] (ps s (sLen (rst T s)))) W→SeQ T rb u w0 w.heap.size s (.returned (.tuple #[.string ⟨n.toArray⟩,v])) W):=fun n L v W hp hv hr=>by
  refine ⟨n,L,v,rfl,hv,?_,?_⟩
  ·intro _
   unfold serF
   dsimp only
   rw [hp]
   exact ⟨rfl,rfl⟩
  ·unfold serF
   dsimp only
   rw [hp]
   exact hr
 have HRn:Hid (∀ n,Rd T rb u w0 s (w.drewN n)):=fun n=>h.below (bel_dn (Below.refl _ _) n)
 have HSz:Hid (∀ n,(w.drewN n).heap.size=w.heap.size):=fun n=>by
  induction n with
  | zero=>rfl
  | succ n ih=>exact ih
 have HBd:Hid (∀ z k,La.parR ((rst T s).take (sLen (rst T s)))=.error (z,k)→0≤z∧s.a+k≤200000∧(s.e=0→s.a+k≤T.length)):=fun z k hp=>by
  have h1:=par_z _ _ _ hp
  have h2:=La.par_far _ _ _ hp
  rw [List.length_take] at h2
  refine ⟨h1,by omega,fun e=>?_⟩
  unfold rst at h2
  rw [if_pos e] at h2
  rw [List.length_drop] at h2
  omega
 have htk:=La.take_bytes (rst T s) (sLen (rst T s))
 have hsl':(sLen (rst T s):Int)≤((rst T s).length:Int):=by omega
 have hrl':((rst T s).length:Int)≤65536:=by omega
 clear h ho hrT hsl
 generalize sLen (rst T s)=m at *
 generalize rst T s=R at *
 go_enter Tryz.func103,Tryz.ntmps103
 go_wp2_with fail
 refine (HR1.out).mono ?_
 rintro e w1 ⟨rfl,m1,rfl⟩
 clear HR1
 go_wp2_with fail
 refine Calls.mono (HSl.out _) ?_
 rintro e w2 ⟨rfl,rfl⟩
 clear HSl
 go_wp2_with fail
 refine Calls.mono (HRs.out _ (HRn.out m1)) ?_
 rintro e w3 ⟨rfl,m2,rfl⟩
 have HR3:=hid_of ((HRn.out m1).below (bel_dn (Below.refl _ _) m2))
 have HS3:Hid (((w.drewN m1).drewN m2).heap.size=w.heap.size):=by
  show _=_
  rw [World.drewN_drewN]
  exact HSz.out _
 clear HRs HRn HSz
 generalize (w.drewN m1).drewN m2=w3 at *
 have D4:La.HidC _ _ _ _ _:=HPa.out w3
 clear HPa
 go_wp2_with fail
 refine (D4.out).mono ?_
 rintro e w4 ⟨hT,hb4⟩
 have HR4:=hid_of (HR3.out.below hb4)
 have ca:=(four_cells HR4.out.at_).1.2.1
 clear D4 HR3
 rcases hT with ⟨z,k,hp,hz,rfl⟩ | ⟨n,L,v,hp,rfl,hown⟩
 ·obtain ⟨z0,hk1,hk2⟩:=HBd.out z k hp
  obtain ⟨q,rfl⟩:=Int.eq_ofNat_of_zero_le z0
  have hq:((q:Int) == 0)=false:=by rw [beq_eq_false_iff_ne];exact hz
  have HF:=hid_of (HEr.out q k hp hz)
  rw [Int.toNat_natCast,if_neg (fun e=>hz (by rw [e];rfl))] at HF
  have HO1:Hid (Ok T (fl s q (s.a+k))):=HOk.out.fl hk2
  have HO2:Hid (Ok T (ps (fl s q (s.a+k)) m)):=HOp.out _ HO1.out (fun h=>absurd h (fl_e _ _ _ (fun e=>hz (by rw [e];rfl))))
  obtain ⟨x,hx⟩:∃ x,x=s.a+k:=⟨_,rfl⟩
  have w1:IntKind.i64.wrap ((s.a:Int)+(k:Int))=(x:Int):=by rw [IntKind.wrap_i64];omega
  rw [← hx] at HF HO1 HO2
  clear hp hz HBd HEr HYe hk1 hk2 z0 hx HOk HOp hb4
  go_wp2_with fail
  refine Calls.mono (HFl.out q x _ HR4.out) ?_
  rintro e w5 ⟨rfl,hr5⟩
  have HR5:=hid_of (HR4.out.then hr5)
  clear hr5 HR4 ca HFl w1
  go_wp2_with fail
  refine Calls.mono (HPs.out _ _ HR5.out HO1.out) ?_
  rintro e w6 ⟨rfl,hr6⟩
  have HR6:=hid_of (HR5.out.then hr6)
  clear hr6 HR5
  go_wp2_with fail
  refine Calls.mono (HM.out _ _ HR6.out HO2.out) ?_
  rintro e w7 ⟨rfl,hr7⟩
  have HR7:=hid_of (HF.out _ (HR6.out.then hr7))
  clear hr7 HR6
  go_wp2_with fail
  go_ret2
  exact HR7.out
 ·have hv:=LbV.of hown
  have HV:Hid (LbV w.heap.size w4 v L):=hv.mono (by rw [← HS3.out];exact Nat.le_refl _)
  obtain ⟨va,vb,vo,vc,rfl,-⟩:=hv
  have HF:=hid_of (HYe.out n L)
  have HP:=hid_of hp
  have HO2:Hid (Ok T (ps s m)):=HOp.out _ HOk.out (fun _=>rfl)
  clear hp hown HBd HEr HYe HOp hb4 ca HFl
  go_wp2_with fail
  refine Calls.mono (HPs.out _ _ HR4.out HOk.out) ?_
  rintro e w6 ⟨rfl,hr6⟩
  have HR6:=hid_of (HR4.out.then hr6)
  have HV6:=hid_of (hr6.exn HV.out hrb)
  clear hr6 HR4 HV
  go_wp2_with fail
  refine Calls.mono (HM.out _ _ HR6.out HO2.out) ?_
  rintro e w7 ⟨rfl,hr7⟩
  have HR7:=hid_of (HF.out _ _ HP.out (hr7.exn HV6.out hrb) (HR6.out.then hr7))
  clear hr7 HR6 HV6
  go_wp2_with fail
  go_ret2
  exact HR7.out
end Go.Proofs.YtlgkfeeclgcgbaaGreatDoor.Ru
/- RULES IN MEMORY; the reader's number. Own work of the verifier. -/
set_option maxHeartbeats 2000000
namespace Go.Proofs.YtlgkfeeclgcgbaaGreatDoor.Ru
open Go.RowKit Me
mutual
def RV (B:Nat) (W:World):RT→Value→Prop
 | .mk k x nm lb w n d ar,v=>∃ lv ao b o cap,v=rx k x nm lv w n d (.slice ao ar.length cap)∧LbV B W lv lb∧(ar≠[]→ao=some ⟨b,o,none⟩∧B≤b)∧ar.length≤cap∧cap≤9223372036854775807∧RVs B W b o ar
def RVs (B:Nat) (W:World) (b:Nat):Nat→List RT→Prop
 | _,[]=>True
 | o,t::ar=>(∃ u:Array Value,RV B W t (.agg u)∧u.size=8∧∀ j (h:j < u.size),W.cell? ⟨b,o+j,none⟩=some u[j])∧RVs B W b (o+8) ar
end
theorem RVs.map {B B':Nat} {W W1:World} {b:Nat} (hc:∀ o u,W.cell? ⟨b,o,none⟩=some u→W1.cell? ⟨b,o,none⟩=some u):∀ (ar:List RT) (o:Nat),(∀ a ∈ ar,∀ v,RV B W a v→RV B' W1 a v)→RVs B W b o ar→RVs B' W1 b o ar
 | [],_,_,_=>by unfold RVs;trivial
 | t::ar,o,h,hs=>by
  unfold RVs at hs ⊢
  obtain ⟨⟨u,h1,h2,h3⟩,h4⟩:=hs
  exact ⟨⟨u,h t List.mem_cons_self _ h1,h2,fun j hj=>hc _ _ (h3 j hj)⟩,RVs.map hc ar (o+8) (fun a ha=>h a (List.mem_cons_of_mem _ ha)) h4⟩
theorem RV.map {B B':Nat} {W W1:World} (hB:B'≤B) (hc:∀ b o u,B≤b→W.cell? ⟨b,o,none⟩=some u→W1.cell? ⟨b,o,none⟩=some u) (hl:∀ v L,LbV B W v L→LbV B' W1 v L):∀ (t:RT) (v:Value),RV B W t v→RV B' W1 t v:=by
 refine RT.ind ?_
 intro k x nm lb w n d ar ih v h
 unfold RV at h ⊢
 obtain ⟨lv,ao,b,o,cap,rfl,h1,h2,h3,h4,h5⟩:=h
 refine ⟨lv,ao,b,o,cap,rfl,hl _ _ h1,fun e=>⟨(h2 e).1,Nat.le_trans hB (h2 e).2⟩,h3,h4,?_⟩
 by_cases e:ar=[]
 ·subst e;unfold RVs;trivial
 ·exact RVs.map (fun o u hu=>hc b o u (h2 e).2 hu) ar o (fun a ha v hv=>ih a ha v hv) h5
theorem RV.below {B:Nat} {W W1:World} {t:RT} {v:Value} (h:RV B W t v) (hb:Below W.heap.size W W1):RV B W1 t v :=
 RV.map (Nat.le_refl _) (fun _ _ _ _ hu=>cellH hb hu) (fun _ _ hl=>hl.below hb) t v h
theorem RV.ex {B g:Nat} {W W1:World} {t:RT} {v:Value} (h:RV B W t v) (hb:La.Ex g W W1) (hg:g < B):RV B W1 t v :=
 RV.map (Nat.le_refl _) (fun b o u hB hu=>(World.cell?_of_block (w:=W) (w':=W1) (a:=⟨b,o,none⟩) (hb.block b (La.lt_of_cell hu) (by omega))).trans hu) (fun _ _ hl=>hl.ex hb hg) t v h
theorem RV.mono {B B':Nat} {W:World} {t:RT} {v:Value} (h:RV B W t v) (hB:B'≤B):RV B' W t v :=
 RV.map hB (fun _ _ _ _ hu=>hu) (fun _ _ hl=>hl.mono hB) t v h
theorem RV.form {B:Nat} {W:World} {t:RT} {v:Value} (h:RV B W t v):∃ k x nm la ln lc w n d aa an ac,v=rx k x nm (.slice la ln lc) w n d (.slice aa an ac):=by
 obtain ⟨k,x,nm,lb,w,n,d,ar⟩:=t
 unfold RV at h
 obtain ⟨lv,ao,b,o,cap,rfl,h1,-⟩:=h
 obtain ⟨la,lb',lo,lc,rfl,-⟩:=h1
 exact ⟨k,x,nm,_,_,_,w,n,d,_,_,_,rfl⟩
theorem RV.zero (B:Nat) (W:World):RV B W .zero (rx 0 0 [] (.slice none 0 0) 0 0 0 (.slice none 0 0)):=by
 unfold RV
 exact ⟨_,none,0,0,0,rfl,LbV.nil _ _,fun h=>absurd rfl h,Nat.le_refl _,by decide,by unfold RVs;trivial⟩
theorem RV.num (B:Nat) (W:World) (x:Nat):RV B W (.mk 1 x [] [] 0 0 0 []) (rx 1 x [] (.slice none 0 0) 0 0 0 (.slice none 0 0)):=by
 unfold RV
 exact ⟨_,none,0,0,0,rfl,LbV.nil _ _,fun h=>absurd rfl h,Nat.le_refl _,by decide,by unfold RVs;trivial⟩
def TellR (T:List UInt8) (rb:Nat) (u w0:World) (B:Nat) (q:RT × St) (e:Ending) (W:World):Prop:=∃ (t:RT) (v:Value),e=.returned v∧RV B W t v∧(q.2.e=0→t=q.1)∧Rd T rb u w0 q.2 W
def PrQ (PR:List UInt8→Option Nat) (l:List UInt8) (e:Ending):Prop:=(∃ x,PR l=some x∧e=.returned (.tuple #[.float .f64 x,.int .i64 0]))∨(PR l=none∧∃ x,e=.returned (.tuple #[.float .f64 x,.int .i64 5]))
def PrAt (PR:List UInt8→Option Nat) (u:World) (l:List UInt8):Prop:=∀ W,Below u.heap.size u W→Calls Tryz.prog 100 #[.string ⟨l.toArray⟩] W fun e w'=>PrQ PR l e∧Below W.heap.size W w'
theorem eight {W:World} {g:Nat} {a0 a1 a2 a3 a4 a5 a6 a7:Value} {t:TypeId} (h:W.heap[g]? =some (.cells #[a0,a1,a2,a3,a4,a5,a6,a7] t)) :
  W.cell? ⟨g,0,none⟩=some a0∧W.cell? ⟨g,1,none⟩=some a1∧W.cell? ⟨g,2,none⟩=some a2∧W.cell? ⟨g,3,none⟩=some a3∧W.cell? ⟨g,4,none⟩=some a4∧W.cell? ⟨g,5,none⟩=some a5∧W.cell? ⟨g,6,none⟩=some a6∧W.cell? ⟨g,7,none⟩=some a7:=by
 refine ⟨?_,?_,?_,?_,?_,?_,?_,?_⟩ <;> simp [World.cell?,h]
theorem eight_f {W:World} {g:Nat} {cs:Array Value} {t:TypeId} (h:W.heap[g]? =some (.cells cs t)):∀ i,W.frozen? ⟨g,i,none⟩=false:=fun i=>by simp [World.frozen?,h]
def put8 (W:World) (g:Nat) (a0 a1 a2 a3 a4 a5 a6 a7:Value):World:=(((((((W.setCell ⟨g,0,none⟩ a0).setCell ⟨g,1,none⟩ a1).setCell ⟨g,2,none⟩ a2).setCell ⟨g,3,none⟩ a3).setCell ⟨g,4,none⟩ a4).setCell ⟨g,5,none⟩ a5).setCell ⟨g,6,none⟩ a6).setCell ⟨g,7,none⟩ a7
theorem put8_heap {W:World} {g:Nat} {z0 z1 z2 z3 z4 z5 z6 z7:Value} {t:TypeId} (h:W.heap[g]? =some (.cells #[z0,z1,z2,z3,z4,z5,z6,z7] t)) (a0 a1 a2 a3 a4 a5 a6 a7:Value) :
  (put8 W g a0 a1 a2 a3 a4 a5 a6 a7).heap[g]? =some (.cells #[a0,a1,a2,a3,a4,a5,a6,a7] t):=by
 have h0:=Lib.heap_setCell_same (i:=0) h a0
 have h1:=Lib.heap_setCell_same (i:=1) h0 a1
 have h2:=Lib.heap_setCell_same (i:=2) h1 a2
 have h3:=Lib.heap_setCell_same (i:=3) h2 a3
 have h4:=Lib.heap_setCell_same (i:=4) h3 a4
 have h5:=Lib.heap_setCell_same (i:=5) h4 a5
 have h6:=Lib.heap_setCell_same (i:=6) h5 a6
 have h7:=Lib.heap_setCell_same (i:=7) h6 a7
 unfold put8
 rw [h7]
 simp
theorem put8_ex {rb:Nat} {w W:World} (h:La.Ex rb w W) {g:Nat} (hg:w.heap.size≤g) (a0 a1 a2 a3 a4 a5 a6 a7:Value):La.Ex rb w (put8 W g a0 a1 a2 a3 a4 a5 a6 a7) :=
 (((((((h.put hg _ _).put hg _ _).put hg _ _).put hg _ _).put hg _ _).put hg _ _).put hg _ _).put hg _ _
theorem put8_one (W:World) (g:Nat) (a0 a1 a2 a3 a4 a5 a6 a7:Value):La.Ex g W (put8 W g a0 a1 a2 a3 a4 a5 a6 a7) :=
 (((((((((La.Ex.refl g W).set _ _).set _ _).set _ _).set _ _).set _ _).set _ _).set _ _).set _ _)
theorem Rd.put8 {T:List UInt8} {rb:Nat} {u w:World} {s:St} {W:World} (h:Rd T rb u w s W) {g:Nat} (hg:w.heap.size≤g) (hr:g≠rb) (hu:u.heap.size≤g) (a0 a1 a2 a3 a4 a5 a6 a7:Value):Rd T rb u w s (put8 W g a0 a1 a2 a3 a4 a5 a6 a7):=by
 refine ⟨?_,h.lo,put8_ex h.ex hg _ _ _ _ _ _ _ _,h.hb,?_⟩
 ·exact h.st.trans ((put8_one W g a0 a1 a2 a3 a4 a5 a6 a7).below hu (by have:=h.st.size;omega))
 ·rw [(put8_one W g a0 a1 a2 a3 a4 a5 a6 a7).block rb h.lt (fun e=>hr e.symm)]
  exact h.at_
def Z8 (g:Nat) (W:World):Prop:=W.heap[g]? =some (.cells (rc 0 0 [] (.slice none 0 0) 0 0 0 (.slice none 0 0)) 61)
theorem Z8.lt {g:Nat} {W:World} (h:Z8 g W):g < W.heap.size:=(Array.getElem?_eq_some_iff.1 h).1
theorem Z8.ex {g rb:Nat} {W W1:World} (h:Z8 g W) (hx:La.Ex rb W W1) (hg:g≠rb):Z8 g W1:=(hx.block g h.lt hg).trans h
theorem Z8.below {g:Nat} {W W1:World} (h:Z8 g W) (hb:Below W.heap.size W W1):Z8 g W1:=(hb.block g h.lt).trans h
theorem store_f (W:World) (a:Addr) (x:Nat) (m:Mode):(store a (.float .f64 x) m).run Tryz.prog W=stored Tryz.prog W a (.float .f64 x) m:=run_store Tryz.prog W a _ m rfl
theorem number_any {T:List UInt8} {rb:Nat} {u w0:World} {s:St} {w:World} (h:Rd T rb u w0 s w) (ho:Ok T s) (PR:List UInt8→Option Nat) (hP:PrAt PR u (rowF isNm T s)) :
  Calls Tryz.prog 74 #[.pointer (some ⟨rb,0,none⟩)] w fun e w'=>TellR T rb u w0 w.heap.size (numF PR T s) e w':=by
 have hb1:=bel1 w (.cells (rc 0 0 [] (.slice none 0 0) 0 0 0 (.slice none 0 0)) 61)
 have hn1:Z8 w.heap.size (w.alloc (.cells (rc 0 0 [] (.slice none 0 0) 0 0 0 (.slice none 0 0)) 61)):=new_1 w _
 have HA:=hid_of (h.below hb1)
 have HN:=hid_of hn1
 have hrb:=h.lt
 have hu:=h.st.size
 have hw0:=h.ex.size
 have hrl:=rowF_le isNm T s
 have hrT:=rst_le T s
 have hT:=ho.t
 have HPs:Hid (∀ s' W,Rd T rb u w0 s' W→Ok T s'→Calls Tryz.prog 101 #[.pointer (some ⟨rb,0,none⟩),.int .i64 ((rowF isNm T s).length:Int)] W fun r w'=>r=.returned (.tuple #[])∧Rd T rb u W (ps s' (rowF isNm T s).length) w'):=fun s' W h ho=>pass_any h.re ho _ (by omega)
 have HFl:Hid (∀ W,Rd T rb u w0 s W→Calls Tryz.prog 59 #[.pointer (some ⟨rb,0,none⟩),.int .i64 5,.int .i64 (s.a:Int)] W fun r w'=>r=.returned (.tuple #[])∧Rd T rb u W (fl s 5 s.a) w'):=fun W h=>fail_any h.re 5 s.a
 have HRow:Hid (∀ W,Rd T rb u w0 s W→Calls Tryz.prog 98 #[.pointer (some ⟨rb,0,none⟩),.func (.func 99) #[] #[]] W fun e w'=>e=.returned (.string ⟨(rowF isNm T s).toArray⟩)∧∃ n,w'=W.drewN n):=fun W h=>row_any h ho _ isNm tells_nm
 have HP:Hid (∀ W,Rd T rb u w0 s W→Calls Tryz.prog 100 #[.string ⟨(rowF isNm T s).toArray⟩] W fun e w'=>PrQ PR (rowF isNm T s) e∧Below W.heap.size W w'):=fun W h=>hP W h.st
 have HOk:=hid_of ho
 have HOf:Hid (Ok T (fl s 5 s.a)):=ho.fl (fun _=>ho.a)
 have HQ:Hid (∀ x s' W,(s'.e=0→(numF PR T s).1=.mk 1 x [] [] 0 0 0 [])→s'=(numF PR T s).2→Rd T rb u w0 s' W→TellR T rb u w0 w.heap.size (numF PR T s) (.returned (rx 1 x [] (.slice none 0 0) 0 0 0 (.slice none 0 0))) W):=fun x s' W h1 h2 hr=>by
  subst h2
  exact ⟨_,_,rfl,RV.num _ _ x,fun e=>(h1 e).symm,hr⟩
 have HY:Hid (∀ x,PR (rowF isNm T s)=some x→numF PR T s=(.mk 1 x [] [] 0 0 0 [],ps s (rowF isNm T s).length)):=fun x hx=>by unfold numF;rw [hx]
 have HX:Hid (PR (rowF isNm T s)=none→numF PR T s=(.zero,fl s 5 s.a)):=fun hx=>by unfold numF;rw [hx]
 have hl':((rowF isNm T s).length:Int)≤65536:=by omega
 have sF:=store_f
 clear h ho hP hb1 hn1 hrl hrT hT
 generalize rowF isNm T s=r at *
 go_enter Tryz.func74,Tryz.ntmps74
 go_wp2_with fail
 generalize w.alloc (.cells (rc 0 0 [] (.slice none 0 0) 0 0 0 (.slice none 0 0)) 61)=W0 at *
 refine Calls.mono (HRow.out _ HA.out) ?_
 rintro e w1 ⟨rfl,m,rfl⟩
 have HR1:=hid_of (HA.out.below (bel_dn (Below.refl _ _) m))
 have HN1:=hid_of (HN.out.below (bel_dn (Below.refl _ _) m))
 clear HA HN HRow
 generalize W0.drewN m=w1 at *
 go_wp2_with fail
 refine Calls.mono (HP.out _ HR1.out) ?_
 rintro e w2 ⟨hq,hb2⟩
 have HR2:=hid_of (HR1.out.below hb2)
 have HN2:=hid_of (HN1.out.below hb2)
 have ca:=(four_cells HR2.out.at_).1.2.1
 clear HR1 HN1 HP hb2
 rcases hq with ⟨x,hx,rfl⟩ | ⟨hx,x,rfl⟩
 ·have e1:=HY.out x hx
  have HF2:Hid (∀ W,Rd T rb u w0 (ps s r.length) W→TellR T rb u w0 w.heap.size (numF PR T s) (.returned (rx 1 x [] (.slice none 0 0) 0 0 0 (.slice none 0 0))) W):=fun W hr=>HQ.out x _ W (fun _=>by rw [e1]) (by rw [e1]) hr
  clear HY HX HQ hx e1 HFl HOf ca
  go_wp2_with fail
  refine Calls.mono (HPs.out _ _ HR2.out HOk.out) ?_
  rintro e w3 ⟨rfl,hr3⟩
  have hn3:=HN2.out.ex hr3.ex (by omega)
  have hR3:=HR2.out.then hr3
  obtain ⟨z0,z1,z2,z3,z4,z5,z6,z7⟩:=eight hn3
  have zf:=eight_f hn3
  have HH:=hid_of (put8_heap hn3 (.int .i64 1) (.float .f64 x) (.string ⟨#[]⟩) (.slice none 0 0) (.int .i64 0) (.int .i64 0) (.int .i64 0) (.slice none 0 0))
  have HE:=hid_of (HF2.out _ (hR3.put8 (g:=w.heap.size) (by omega) (by omega) (by omega) (.int .i64 1) (.float .f64 x) (.string ⟨#[]⟩) (.slice none 0 0) (.int .i64 0) (.int .i64 0) (.int .i64 0) (.slice none 0 0)))
  clear hr3 hR3 hn3 HR2 HN2 HF2 HPs
  go_wp2_with fail
  refine bodyPost_ret (results_cell_row (P:=Tryz.prog) rfl _ _ w.heap.size 61 _ (0,0) _ rfl HH.out Tryz.underlying61 rfl (by kernel_rfl)) rfl ?_
  exact HE.out
 ·have e1:=HX.out hx
  have HF2:Hid (∀ W,Rd T rb u w0 (fl s 5 s.a) W→TellR T rb u w0 w.heap.size (numF PR T s) (.returned (rx 1 x [] (.slice none 0 0) 0 0 0 (.slice none 0 0))) W):=fun W hr=>HQ.out x _ W (fun h=>absurd h (fl_e _ _ _ (by decide))) (by rw [e1]) hr
  have HEr:Hid (ps (fl s 5 s.a) r.length=fl s 5 s.a):=ps_err (fl_e _ _ _ (by decide)) _
  clear HY HX HQ hx e1 HOk
  go_wp2_with fail
  refine Calls.mono (HFl.out _ HR2.out) ?_
  rintro e w3 ⟨rfl,hr3⟩
  have HR3:=hid_of (HR2.out.then hr3)
  have HN3:=hid_of (HN2.out.ex hr3.ex (by omega))
  clear hr3 HR2 HN2 ca HFl
  go_wp2_with fail
  refine Calls.mono (HPs.out _ _ HR3.out HOf.out) ?_
  rintro e w4 ⟨rfl,hr4⟩
  have hn3:=HN3.out.ex hr4.ex (by omega)
  have hR3:=HR3.out.then hr4
  rw [HEr.out] at hR3
  obtain ⟨z0,z1,z2,z3,z4,z5,z6,z7⟩:=eight hn3
  have zf:=eight_f hn3
  have HH:=hid_of (put8_heap hn3 (.int .i64 1) (.float .f64 x) (.string ⟨#[]⟩) (.slice none 0 0) (.int .i64 0) (.int .i64 0) (.int .i64 0) (.slice none 0 0))
  have HE:=hid_of (HF2.out _ (hR3.put8 (g:=w.heap.size) (by omega) (by omega) (by omega) (.int .i64 1) (.float .f64 x) (.string ⟨#[]⟩) (.slice none 0 0) (.int .i64 0) (.int .i64 0) (.int .i64 0) (.slice none 0 0)))
  clear hr4 hR3 hn3 HR3 HN3 HF2 HPs
  go_wp2_with fail
  refine bodyPost_ret (results_cell_row (P:=Tryz.prog) rfl _ _ w.heap.size 61 _ (0,0) _ rfl HH.out Tryz.underlying61 rfl (by kernel_rfl)) rfl ?_
  exact HE.out
end Go.Proofs.YtlgkfeeclgcgbaaGreatDoor.Ru
