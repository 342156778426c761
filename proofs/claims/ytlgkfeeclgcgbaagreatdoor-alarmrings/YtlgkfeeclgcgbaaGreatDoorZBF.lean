/- THE VALUES OF TWO SNAPSHOTS: mergeValues. Own work of the verifier. -/
import Derived.Test.YtlgkfeeclgcgbaaGreatDoorZBE
import Derived.OwnWalk
set_option maxRecDepth 100000
set_option maxHeartbeats 8000000
namespace Go.Proofs.YtlgkfeeclgcgbaaGreatDoor
open Go.RowKit Me
def unN:Option Vl→List Vl→Bool
 | _,[]=>false
 | none,v::r=>unN (some v) r
 | some p,v::r=>unlB p v || unN (some v) r
def serN:Option Vl→List Vl→Nat
 | _,[]=>0
 | none,v::r=>1+serN (some v) r
 | some p,v::r=>(if La.ordD p.d v.d≠0 then 1 else 0)+serN (some v) r
theorem unN_pos (L:List Vl) (i:Nat) (h0:0 < i) (h:i < L.length):unN (prvV L i) (L.drop i)=(unlB (L[i - 1]'(by omega)) L[i] || unN (prvV L (i+1)) (L.drop (i+1))):=by
 rw [prvV_pos L i h0 (by omega),prvV_succ L i h,List.drop_eq_getElem_cons h,unN]
theorem unN_zero (L:List Vl) (h:0 < L.length):unN (prvV L 0) (L.drop 0)=unN (prvV L 1) (L.drop 1):=by
 rw [prvV_succ L 0 h,List.drop_eq_getElem_cons h]
 rfl
theorem serN_pos (L:List Vl) (i:Nat) (h0:0 < i) (h:i < L.length):serN (prvV L i) (L.drop i)=(if La.ordD (L[i - 1]'(by omega)).d L[i].d≠0 then 1 else 0)+serN (prvV L (i+1)) (L.drop (i+1)):=by
 rw [prvV_pos L i h0 (by omega),prvV_succ L i h,List.drop_eq_getElem_cons h,serN]
theorem serN_zero (L:List Vl) (h:0 < L.length):serN (prvV L 0) (L.drop 0)=1+serN (prvV L 1) (L.drop 1):=by
 rw [prvV_succ L 0 h,List.drop_eq_getElem_cons h]
 rfl
noncomputable def mvL (L:List Vl):List Vl × Int:=if unN none L then ([],12) else if 256 < serN none L then ([],3) else jnL [] none L
def MvQ (w:World) (L:List Vl) (e:Ending) (w':World):Prop:=∃ u J,e=.returned (.tuple #[u,.int .i64 (mvL L).2])∧Below w.heap.size w w'∧((mvL L).2=0→JV w u J w'∧J.map (·.1)=(mvL L).1)
theorem JV.rebase {w0 w W:World} {v:Value} {J:List Rv} (h:JV w v J W) (hb:Below w0.heap.size w0 w):JV w0 v J W:=⟨⟨own_leG h.g.own hb.size,hb.trans (h.g.below.mono hb.size),Nat.le_trans hb.size h.g.size⟩,fun r hr=>⟨own_leG (h.el r hr).1 hb.size,own_leG (h.el r hr).2 hb.size⟩,h.dj⟩
theorem mvals_walk (va vb:Value) (w:World) (L:List Vl) (hL:L.length≤512) (hf:∀ x ∈ L,Fit x) (n3:No3 L)
  (HMg:Hid (∀ _:Unit,Calls Tryz.prog 302 #[va,vb,.func (.func 69) #[] #[]] w fun e w'=>∃ v,e=.returned v∧SV w' v L∧Below w.heap.size w w')) :
  Calls Tryz.prog 295 #[va,vb] w fun e w'=>MvQ w L e w':=by
 have HF:=hid_of hf
 have HN3:=hid_of n3
 clear hf n3
 go_enter Tryz.func295,Tryz.ntmps295
 go_upto_region 2 with (go_at_call 302;refine (HMg.out ()).mono ?_;rintro e w1 ⟨v1,rfl,hS1,hb1⟩;obtain ⟨ao,b,o,cap,rfl,hao,hcap,hcap2,hr⟩:=hS1.open)
 have HR:=hid_of hr
 have HS1:=hid_of hS1
 have HB1:=hid_of hb1
 have Hs0:Hid (0+serN (prvV L 0) (L.drop 0)=serN none L):=by unfold Hid;rw [Nat.zero_add];rfl
 have Hu0:Hid (unN (prvV L 0) (L.drop 0)=unN none L):=rfl
 clear HMg hr hS1 hb1
 go_upto_region 4 with fail
 go_loopw [7,15] (fun y x W=>∃ (i s:Nat),i≤L.length∧s≤i∧y=.int .i64 (s:Int)∧x=.int .i64 (i:Int)∧Hid (unN (prvV L i) (L.drop i)=unN none L)∧Hid (s+serN (prvV L i) (L.drop i)=serN none L)∧Hid (Below w1.heap.size w1 W)) (fun _ x _=>L.length - (intOf x).toNat)
 case atStart=>exact ⟨0,0,by omega,by omega,rfl,rfl,Hu0,Hs0,Below.refl _ _⟩
 case round =>
  clear Hu0 Hs0
  obtain ⟨i,s,hi,hsi,rfl,rfl,Hu,Hs,HBl⟩:=hrel
  by_cases hlt:i < L.length
  ·have hlt':(i:Int) < (L.length:Int):=by omega
   obtain rfl:=hao (by intro e;rw [e] at hlt;simp at hlt)
   have HRw:=hid_of (HR.out.below HBl.out)
   obtain ⟨lw,cw,g1,g2,g3⟩:=HRw.out i hlt
   obtain ⟨lwa,lwc,rfl⟩:=g2.form
   obtain ⟨cwa,cwc,rfl⟩:=g3.form
   have hix:=index_val b o L.length cap i (i:Int) rfl hlt
   have HKn:Hid (KV wr wr.heap.size L[i] (.slice lwa L[i].d.labels.length lwc) (.slice cwa L[i].cs.length cwc) (wr.alloc (.cells (vc L[i] (.slice lwa L[i].d.labels.length lwc) (.slice cwa L[i].cs.length cwc)) 86))):=KV.new g2 g3 _
   have hcC:=g1.cC
   obtain ⟨r0,r1,r2,r3,r4,r5,r6,r7,r8,r9,r10⟩:=hcC
   have sF:=store_f
   clear g1 g2 g3
   go_upto_region 6 with fail
   clear r0 r1 r2 r3 r4 r5 r6 r7 r8 r9 r10 sF
   obtain ⟨w6,hw6⟩:∃ w6,wr.alloc (.cells (vc L[i] (.slice lwa L[i].d.labels.length lwc) (.slice cwa L[i].cs.length cwc)) 86)=w6:=⟨_,rfl⟩
   rw [hw6] at HKn
   simp only [vc] at hw6
   rw [hw6]
   clear hw6
   by_cases h0:i=0
   ·have hi1':decide ((0:Int) < (i:Int))=false:=decide_eq_false (by omega)
    have hi1'':decide (0 < i)=false:=decide_eq_false (by omega)
    have hi':((i:Int) == 0)=true:=by rw [beq_iff_eq];omega
    have Hu1:Hid (unN (prvV L (i+1)) (L.drop (i+1))=unN none L):=by
     have:=Hu.out
     subst h0
     rw [unN_zero L hlt] at this
     exact this
    have Hs1:Hid ((s+1)+serN (prvV L (i+1)) (L.drop (i+1))=serN none L):=by
     have:=Hs.out
     subst h0
     rw [serN_zero L hlt] at this
     unfold Hid
     simp only [Nat.zero_add] at this ⊢
     omega
    clear h0 Hu Hs
    go_cut [30] from 20 to 29 (fun v W=>v=.bool false∧Hid (KV wr wr.heap.size L[i] (.slice lwa L[i].d.labels.length lwc) (.slice cwa L[i].cs.length cwc) W))
    case first =>
     go_quiet (fail)
     go_wp2_with fail
     go_meet
     exact ⟨rfl,HKn.out.below (bel_drewNB (Below.refl _ _) nq)⟩
    case rest =>
    obtain ⟨rfl,HK1⟩:=hcut
    clear HKn
    go_upto_region 8 with fail
    go_cut [42] from 31 to 41 (fun v W=>v=.bool true∧Hid (KV wr wr.heap.size L[i] (.slice lwa L[i].d.labels.length lwc) (.slice cwa L[i].cs.length cwc) W))
    case first =>
     go_quiet (fail)
     go_wp2_with fail
     go_meet
     exact ⟨rfl,HK1.out.below (bel_drewNB (Below.refl _ _) nq)⟩
    case rest =>
    obtain ⟨rfl,HK2⟩:=hcut
    have HBe:=hid_of (bt HBl.out HK2.out.bl)
    clear HK1 HK2 HBl
    go_wp2_with fail
    exact ⟨⟨i+1,s+1,by omega,by omega,by go_num,by go_num,Hu1,Hs1,HBe⟩,by simp [intOf];omega⟩
   ·obtain ⟨m,hm⟩:∃ m,m+1=i:=⟨i - 1,by omega⟩
    have hml:m < L.length:=by omega
    have hi1':decide ((0:Int) < (i:Int))=true:=decide_eq_true (by omega)
    have hi1'':decide (0 < i)=true:=decide_eq_true (by omega)
    have hi':((i:Int) == 0)=false:=by rw [beq_eq_false_iff_ne];omega
    have hw1:IntKind.i64.wrap ((i:Int) - 1)=(m:Int):=by rw [IntKind.wrap_i64];omega
    have hixm:=index_val b o L.length cap m (m:Int) rfl hml
    obtain ⟨lm,cm,m1,m2,m3⟩:=HRw.out m hml
    have HKm:=hid_of (⟨m1,m2,m3⟩:KR b (o+m*11) L[m] lm cm wr)
    have hS0:S8h wr b (o+m*11) wr.heap.size L[i] L[m] (.slice lwa L[i].d.labels.length lwc) (.slice cwa L[i].cs.length cwc) lm cm w6:=s8_of HKn.out (HKm.out.below HKn.out.bl)
    have HUc:Hid (∀ W,S8h wr b (o+m*11) wr.heap.size L[i] L[m] (.slice lwa L[i].d.labels.length lwc) (.slice cwa L[i].cs.length cwc) lm cm W→Calls Tryz.prog 70 #[vx L[m] lm cm,vx L[i] (.slice lwa L[i].d.labels.length lwc) (.slice cwa L[i].cs.length cwc)] W fun e w'=>e=.returned (.bool (unlB L[m] L[i]))∧Below W.heap.size W w'):=fun W _=>unl_any L[m] L[i] lm cm (.slice lwa L[i].d.labels.length lwc) (.slice cwa L[i].cs.length cwc) W
    have HCc:Hid (∀ W,S8h wr b (o+m*11) wr.heap.size L[i] L[m] (.slice lwa L[i].d.labels.length lwc) (.slice cwa L[i].cs.length cwc) lm cm W→Calls Tryz.prog 69 #[vx L[m] lm cm,vx L[i] (.slice lwa L[i].d.labels.length lwc) (.slice cwa L[i].cs.length cwc)] W fun e w'=>e=.returned (.int .i64 (La.ordD L[m].d L[i].d))∧Below W.heap.size W w'):=fun W k=>cser_any L[m] L[i] _ _ W k.2.2.2.at k.2.2.1.at
    have Hu1:Hid ((unlB L[m] L[i] || unN (prvV L (i+1)) (L.drop (i+1)))=unN none L):=by
     have:=Hu.out
     subst hm
     rw [unN_pos L (m+1) (by omega) hlt] at this
     unfold Hid
     simpa using this
    have Hs1:Hid (s+((if La.ordD L[m].d L[i].d≠0 then 1 else 0)+serN (prvV L (i+1)) (L.drop (i+1)))=serN none L):=by
     have:=Hs.out
     subst hm
     rw [serN_pos L (m+1) (by omega) hlt] at this
     unfold Hid
     simpa using this
    clear h0 hm Hu Hs m1 m2 m3
    generalize unlB L[m] L[i]=ub at *
    obtain ⟨z,hz⟩:∃ z,La.ordD L[m].d L[i].d=z:=⟨_,rfl⟩
    rw [hz] at HCc Hs1
    clear hz
    go_cut [30] from 20 to 29 (fun v W=>v=.bool ub∧Hid (KV wr wr.heap.size L[i] (.slice lwa L[i].d.labels.length lwc) (.slice cwa L[i].cs.length cwc) W))
    case first =>
     clear HCc Hu1 Hs1 HF HN3 HRw HR HS1
     go_region_held3 (fun W=>S8h wr b (o+m*11) wr.heap.size L[i] L[m] (.slice lwa L[i].d.labels.length lwc) (.slice cwa L[i].cs.length cwc) lm cm W)
      (first | assumption | exact keep8 (by assumption) (by assumption) | exact keep8 (drew_bel _) hS0)
      (first
       | (go_at_call 70;with_reducible refine (HUc.out _ (by first | assumption | exact keep8 (by assumption) (by assumption) | exact keep8 (drew_bel _) hS0)).mono ?_;rintro e w3 ⟨rfl,hb3⟩))
     rename_i hS3
     go_wp2_with fail
     go_meet
     exact ⟨rfl,hS3.2.2.1⟩
    case rest =>
    obtain ⟨rfl,HK1⟩:=hcut
    clear hS0 HKn HUc
    cases ub
    ·rw [Bool.false_or] at Hu1
     have hS1:S8h wr b (o+m*11) wr.heap.size L[i] L[m] (.slice lwa L[i].d.labels.length lwc) (.slice cwa L[i].cs.length cwc) lm cm wc:=s8_of HK1.out (HKm.out.below HK1.out.bl)
     go_upto_region 8 with fail
     go_cut [42] from 31 to 41 (fun v W=>v=.bool (z != 0)∧Hid (KV wr wr.heap.size L[i] (.slice lwa L[i].d.labels.length lwc) (.slice cwa L[i].cs.length cwc) W))
     case first =>
      clear Hu1 Hs1 HF HN3 HRw HR HS1
      go_region_held3 (fun W=>S8h wr b (o+m*11) wr.heap.size L[i] L[m] (.slice lwa L[i].d.labels.length lwc) (.slice cwa L[i].cs.length cwc) lm cm W)
       (first | assumption | exact keep8 (by assumption) (by assumption) | exact keep8 (drew_bel _) hS1)
       (first
        | (go_at_call 69;with_reducible refine (HCc.out _ (by first | assumption | exact keep8 (by assumption) (by assumption) | exact keep8 (drew_bel _) hS1)).mono ?_;rintro e w3 ⟨rfl,hb3⟩))
      rename_i hS3
      go_wp2_with fail
      go_meet
      exact ⟨rfl,hS3.2.2.1⟩
     case rest =>
     obtain ⟨rfl,HK2⟩:=hcut
     have HBe:=hid_of (bt HBl.out HK2.out.bl)
     clear HK1 HK2 HBl hS1 HCc HKm
     by_cases hz0:z=0
     ·have hzb:(z != 0)=false:=by simpa using hz0
      rw [if_neg (by simpa using hz0),Nat.zero_add] at Hs1
      clear hz0
      go_wp2_with fail
      exact ⟨⟨i+1,s,by omega,by omega,rfl,by go_num,Hu1,Hs1,HBe⟩,by simp [intOf];omega⟩
     ·have hzb:(z != 0)=true:=by simpa using hz0
      rw [if_pos hz0,← Nat.add_assoc] at Hs1
      clear hz0
      go_wp2_with fail
      exact ⟨⟨i+1,s+1,by omega,by omega,by go_num,by go_num,Hu1,Hs1,HBe⟩,by simp [intOf];omega⟩
    ·rw [Bool.true_or] at Hu1
     have HE:Hid (mvL L=([],12)):=by
      unfold Hid mvL
      rw [← Hu1.out,if_pos rfl]
     have HBe:=hid_of (bt HB1.out (bt HBl.out HK1.out.bl))
     clear HK1 HBl HCc HKm Hu1 Hs1
     go_wp2_with fail
     go_ret2
     exact ⟨_,[],by rw [HE.out];rfl,HBe.out,fun k=>by rw [HE.out] at k;simp at k⟩
  ·have hlt':¬ (i:Int) < (L.length:Int):=by omega
   have e0:L.drop i=[]:=List.drop_eq_nil_of_le (by omega)
   have hun:unN none L=false:=by have:=Hu.out;rw [e0] at this;rw [← this];cases prvV L i <;> rfl
   have hse:serN none L=s:=by
    have:=Hs.out
    rw [e0] at this
    rw [← this]
    cases prvV L i <;> simp [serN]
   have HS2:=hid_of (HS1.out.below HBl.out)
   have HBw:=hid_of (bt HB1.out HBl.out)
   by_cases h256:256 < s
   ·have h256':(256:Int) < (s:Int):=by omega
    have HE:Hid (mvL L=([],3)):=by
     unfold Hid mvL
     rw [hun,hse,if_neg (by decide),if_pos h256]
    clear Hu Hs hun hse e0 HS1 HS2 HF HN3 HR HBl
    go_wp2_with fail
    go_ret2
    exact ⟨_,[],by rw [HE.out];rfl,HBw.out,fun k=>by rw [HE.out] at k;simp at k⟩
   ·have h256':¬ (256:Int) < (s:Int):=by omega
    have HE:Hid (mvL L=jnL [] none L):=by
     unfold Hid mvL
     rw [hun,hse,if_neg (by decide),if_neg h256]
    have HJn:Hid (∀ _:Unit,_):=fun _=>join_any L _ wr HS2.out hL HF.out HN3.out
    clear Hu Hs hun hse e0 HS1 HF HN3 HR HBl
    go_wp2_with (go_at_call 303;refine (HJn.out ()).mono ?_;rintro e w5 ⟨u5,J5,rfl,hb5,hj5⟩)
    go_ret2
    exact ⟨u5,J5,by rw [HE.out];rfl,bt HBw.out hb5,fun k=>by rw [HE.out] at k ⊢;exact ⟨(hj5 k).1.rebase HBw.out,(hj5 k).2⟩⟩
end Go.Proofs.YtlgkfeeclgcgbaaGreatDoor
/- SNAPSHOTS THAT MAY BE: what follows. Own work of the verifier. -/
namespace Go.Proofs.YtlgkfeeclgcgbaaGreatDoor
theorem chk1_zero {p:Int} {q:Option Vl} {x:Vl} (h:chk1 p q x=0):La.chkD x.d=0∧holdB p x=true∧∀ y,q=some y→plV y x=0:=by
 unfold chk1 at h
 by_cases h1:La.chkD x.d=0
 ·rw [if_neg (by simpa using h1)] at h
  cases h2:holdB p x
  ·rw [if_pos h2] at h
   exact absurd h (by decide)
  ·rw [if_neg (by rw [h2];decide)] at h
   refine ⟨h1,rfl,fun y hy=>?_⟩
   subst hy
   exact h
 ·rw [if_pos h1] at h
  exact absurd h h1
theorem chkV_ok (p:Int) (L:List Vl):∀ (n i:Nat),L.length - i=n→(chkV p (prvV L i) (L.drop i) i).1=0→∀ j (_:i≤j) (hj:j < L.length),chk1 p (prvV L j) L[j]=0:=by
 intro n
 induction n with
 | zero=>intro i hn _ j hij hj;omega
 | succ n ih =>
  intro i hn h j hij hj
  have hi:i < L.length:=by omega
  rw [chkV_drop p L i hi] at h
  by_cases hz:chk1 p (prvV L i) L[i]=0
  ·rw [if_neg (by simpa using hz)] at h
   rcases Nat.lt_or_ge i j with k | k
   ·exact ih (i+1) (by omega) h j k hj
   ·obtain rfl:i=j:=by omega
    exact hz
  ·rw [if_pos hz] at h
   exact absurd h hz
theorem chkS_ok {s:Sn} (h:(chkS s).1=0):1≤s.p∧s.p≤14∧s.vs.length≤256∧∀ j (hj:j < s.vs.length),chk1 s.p (prvV s.vs j) s.vs[j]=0:=by
 unfold chkS at h
 split at h
 ·exact absurd h (by decide)
 ·rename_i h1
  split at h
  ·exact absurd h (by decide)
  ·rename_i h2
   exact ⟨by omega,by omega,by omega,fun j hj=>chkV_ok s.p s.vs _ 0 rfl (by simpa [prvV] using h) j (by omega) hj⟩
theorem plV_zero {y x:Vl} (h:plV y x=0):La.ordD y.d x.d < 0∧unlB y x=false:=by
 unfold plV at h
 by_cases h0:La.ordD y.d x.d=0
 ·rw [if_pos h0] at h;exact absurd h (by decide)
 ·rw [if_neg h0] at h
  by_cases h1:0 < La.ordD y.d x.d
  ·rw [if_pos h1] at h;exact absurd h (by decide)
  ·rw [if_neg h1] at h
   cases h2:unlB y x
   ·exact ⟨by omega,rfl⟩
   ·rw [if_pos h2] at h;exact absurd h (by decide)
def Srd (L:List Vl):Prop:=∀ i (h:i+1 < L.length),La.ordD (L[i]'(by omega)).d L[i+1].d < 0
theorem chkS_srd {s:Sn} (h:(chkS s).1=0):Srd s.vs∧∀ i (h:i+1 < s.vs.length),unlB (s.vs[i]'(by omega)) s.vs[i+1]=false:=by
 obtain ⟨_,_,_,h4⟩:=chkS_ok h
 have key:∀ i (hi:i+1 < s.vs.length),La.ordD (s.vs[i]'(by omega)).d s.vs[i+1].d < 0∧unlB (s.vs[i]'(by omega)) s.vs[i+1]=false:=fun i hi =>
  plV_zero ((chk1_zero (h4 (i+1) hi)).2.2 _ (prvV_succ s.vs i (by omega)))
 exact ⟨fun i hi=>(key i hi).1,fun i hi=>(key i hi).2⟩
end Go.Proofs.YtlgkfeeclgcgbaaGreatDoor
/- SNAPSHOTS THAT MAY BE: their values are fit; two lists in order as one. Own work of the verifier. -/
namespace Go.Proofs.YtlgkfeeclgcgbaaGreatDoor
theorem La_few {d:La.Ds} (h:La.chkD d=0):d.labels.length≤16:=by
 unfold La.chkD at h
 split at h
 ·exact absurd h (by decide)
 ·split at h
  ·exact absurd h (by decide)
  ·split at h
   ·rename_i k;exact absurd h k
   ·split at h
    ·exact absurd h (by decide)
    ·omega
def mAllV:List Vl→List Vl→List Vl
 | [],B=>B
 | a::A,[]=>a::A
 | a::A,b::B=>if La.ordD a.d b.d≤0 then a::mAllV A (b::B) else b::mAllV (a::A) B
termination_by A B=>A.length+B.length
theorem mAll_map (A B:List Rv):(mAll A B).map (·.1)=mAllV (A.map (·.1)) (B.map (·.1)):=by
 fun_induction mAll A B with
 | case1 B=>simp [mAllV]
 | case2 a A=>simp [mAllV]
 | case3 a A b B h ih =>
  simp only [List.map_cons] at ih ⊢
  rw [mAllV,if_pos h,ih]
 | case4 a A b B h ih =>
  simp only [List.map_cons] at ih ⊢
  rw [mAllV,if_neg h,ih]
theorem mAll_mem {A B:List Rv} {r:Rv} (h:r ∈ mAll A B):r ∈ A∨r ∈ B:=by
 fun_induction mAll A B with
 | case1 B=>exact Or.inr h
 | case2 a A=>exact Or.inl h
 | case3 a A b B k ih =>
  rcases List.mem_cons.1 h with e | e
  ·exact Or.inl (by rw [e];exact List.mem_cons_self)
  ·rcases ih e with q | q
   ·exact Or.inl (List.mem_cons_of_mem _ q)
   ·exact Or.inr q
 | case4 a A b B k ih =>
  rcases List.mem_cons.1 h with e | e
  ·exact Or.inr (by rw [e];exact List.mem_cons_self)
  ·rcases ih e with q | q
   ·exact Or.inl q
   ·exact Or.inr (List.mem_cons_of_mem _ q)
theorem mAllV_mem {A B:List Vl} {r:Vl} (h:r ∈ mAllV A B):r ∈ A∨r ∈ B:=by
 fun_induction mAllV A B with
 | case1 B=>exact Or.inr h
 | case2 a A=>exact Or.inl h
 | case3 a A b B k ih =>
  rcases List.mem_cons.1 h with e | e
  ·exact Or.inl (by rw [e];exact List.mem_cons_self)
  ·rcases ih e with q | q
   ·exact Or.inl (List.mem_cons_of_mem _ q)
   ·exact Or.inr q
 | case4 a A b B k ih =>
  rcases List.mem_cons.1 h with e | e
  ·exact Or.inr (by rw [e];exact List.mem_cons_self)
  ·rcases ih e with q | q
   ·exact Or.inl q
   ·exact Or.inr (List.mem_cons_of_mem _ q)
theorem mAllV_len (A B:List Vl):(mAllV A B).length=A.length+B.length:=by
 fun_induction mAllV A B with
 | case1 B=>simp
 | case2 a A=>simp
 | case3 a A b B h ih=>simp only [List.length_cons] at ih ⊢;omega
 | case4 a A b B h ih=>simp only [List.length_cons] at ih ⊢;omega
end Go.Proofs.YtlgkfeeclgcgbaaGreatDoor
/- SNAPSHOTS THAT MAY BE: fit values; no three of a series. Own work of the verifier. -/
namespace Go.Proofs.YtlgkfeeclgcgbaaGreatDoor
theorem may_few {p:Int} {C:List Cn} (h:MayIs p C 0):C.length≤819200:=by
 obtain ⟨hp,_,h3⟩:=may_ok h
 have key:∀ p:Nat,p < 15→(64 - p)*2 ^ p≤819200:=by decide
 have hb:=key p.toNat (by omega)
 have hr:Rise C:=List.pairwise_iff_getElem.2 (fun i j hi hj hij=>may_rise h j i hj hi hij)
 have:=rise_few C 0 hr (fun c hc=>by
  obtain ⟨i,hi,rfl⟩:=List.mem_iff_getElem.1 hc
  obtain ⟨g1,g2,_⟩:=h3 i hi
  exact ⟨by omega,by omega⟩) (by omega)
 omega
theorem fz_fin {x:Vl} (h:fz x=true):Re.finF x.sum=true:=by
 unfold fz at h
 simp only [Bool.and_eq_true,decide_eq_true_eq] at h
 rw [h.1.1]
 decide
theorem fit_of {p:Int} {q:Option Vl} {x:Vl} (hw:VW x) (h:chk1 p q x=0):Fit x:=by
 obtain ⟨h1,h2,_⟩:=chk1_zero h
 have hl:=La_few h1
 unfold holdB at h2
 split at h2
 ·simp only [Bool.and_eq_true,decide_eq_true_eq] at h2
  exact ⟨hw,by omega,by omega,fz_fin h2.2⟩
 ·split at h2
  ·simp only [Bool.and_eq_true] at h2
   have hc:=h2.1
   unfold cntB at hc
   simp only [Bool.and_eq_true,decide_eq_true_eq] at hc
   have hm:=mayE_is p x.cs
   rw [hc.1.1] at hm
   have:=may_few hm
   exact ⟨hw,by omega,by omega,fz_fin h2.2⟩
  ·simp only [Bool.and_eq_true,decide_eq_true_eq] at h2
   refine ⟨hw,by omega,by omega,?_⟩
   have hf:=h2.2
   unfold flB at hf
   split at hf
   ·exact absurd hf (by decide)
   ·split at hf
    ·exact fz_fin hf
    ·simp only [Bool.and_eq_true] at hf
     exact hf.1.1.1
theorem mAllV_perm (A B:List Vl):(mAllV A B).Perm (A++B):=by
 fun_induction mAllV A B with
 | case1 B=>exact List.Perm.refl _
 | case2 a A=>simp
 | case3 a A b B h ih=>exact ih.cons a
 | case4 a A b B h ih=>exact (ih.cons b).trans List.perm_middle.symm
def ky (x:Vl):List UInt8 × List La.Lb:=(x.d.name,x.d.labels)
theorem ord_ky (x y:Vl):La.ordD x.d y.d=0 ↔ ky x=ky y:=by
 rw [La.ordD_zero]
 unfold ky
 constructor
 ·rintro ⟨h1,h2⟩;rw [h1,h2]
 ·intro h;exact ⟨(Prod.mk.inj h).1,(Prod.mk.inj h).2⟩
theorem ord_trans {x y z:Vl} (h1:La.ordD x.d y.d < 0) (h2:La.ordD y.d z.d < 0):La.ordD x.d z.d < 0:=by
 obtain ⟨k1,k2⟩:=La.T3.ordD x.d y.d z.d (by omega) (by omega)
 have:La.ordD x.d z.d≠0:=fun e=>by have:=(k2.1 e).1;omega
 omega
theorem Srd.pair {L:List Vl} (h:Srd L):L.Pairwise (fun x y=>La.ordD x.d y.d < 0):=by
 rw [List.pairwise_iff_getElem]
 intro i j hi hj hij
 induction j with
 | zero=>omega
 | succ j ih =>
  rcases Nat.lt_or_ge i j with k | k
  ·exact ord_trans (ih (by omega) k) (h j hj)
  ·obtain rfl:i=j:=by omega
   exact h i hj
theorem count_one {L:List Vl} (h:L.Pairwise (fun x y=>La.ordD x.d y.d < 0)) (k:List UInt8 × List La.Lb):L.countP (fun x=>decide (ky x=k))≤1:=by
 induction L with
 | nil=>simp
 | cons a L ih =>
  obtain ⟨h1,h2⟩:=List.pairwise_cons.1 h
  rw [List.countP_cons]
  by_cases e:ky a=k
  ·have:L.countP (fun x=>decide (ky x=k))=0:=by
    rw [List.countP_eq_zero]
    intro x hx hk
    have hk':=of_decide_eq_true hk
    have:=h1 x hx
    have h0:=(ord_ky a x).2 (by rw [e,hk'])
    omega
   rw [this]
   split <;> omega
  ·rw [if_neg (by simpa using e)]
   exact ih h2
theorem no3_of {A B:List Vl} (hA:Srd A) (hB:Srd B):No3 (mAllV A B):=by
 intro i h hh
 have hp:=mAllV_perm A B
 generalize mAllV A B=L at *
 obtain ⟨h1,h2⟩:=hh
 have e1:=(ord_ky _ _).1 h1
 have e2:=(ord_ky _ _).1 h2
 have c1:=count_one hA.pair (ky L[i+2])
 have c2:=count_one hB.pair (ky L[i+2])
 have c3:=hp.countP_eq (fun x=>decide (ky x=ky L[i+2]))
 rw [List.countP_append] at c3
 have c4:(L.drop i).countP (fun x=>decide (ky x=ky L[i+2]))≤L.countP (fun x=>decide (ky x=ky L[i+2])):=(List.drop_sublist i L).countP_le
 rw [List.drop_eq_getElem_cons (by omega:i < L.length),List.drop_eq_getElem_cons (by omega:i+1 < L.length),List.drop_eq_getElem_cons (by omega:i+1+1 < L.length)] at c4
 rw [List.countP_cons,List.countP_cons,List.countP_cons,if_pos (by simp),if_pos (by simpa using e2),if_pos (by simpa using e1.trans e2)] at c4
 omega
end Go.Proofs.YtlgkfeeclgcgbaaGreatDoor
/- TWO SNAPSHOTS AS ONE: Merge, the code's. Own work of the verifier. -/
set_option maxRecDepth 100000
set_option maxHeartbeats 8000000
namespace Go.Proofs.YtlgkfeeclgcgbaaGreatDoor
open Go.RowKit Me
def zS:Sn:=⟨0,[],0⟩
noncomputable def mgS (a b:Sn):Sn × Int :=
 if (chkS a).1≠0 then (zS,(chkS a).1) else if (chkS b).1≠0 then (zS,(chkS b).1) else if a.p≠b.p then (zS,12)
 else if (mvL (mAllV a.vs b.vs)).2≠0 then (zS,(mvL (mAllV a.vs b.vs)).2) else if (a.r+b.r) % 18446744073709551616 < a.r then (zS,3)
 else (⟨a.p,(mvL (mAllV a.vs b.vs)).1,(a.r+b.r) % 18446744073709551616⟩,0)
def MgQ (w:World) (a b:Sn) (e:Ending) (w':World):Prop:=∃ u J,e=.returned (.tuple #[.agg #[.int .i64 (mgS a b).1.p,u,.int .u64 ((mgS a b).1.r:Int)],.int .i64 (mgS a b).2])∧Below w.heap.size w w'∧JV w u J w'∧J.map (·.1)=(mgS a b).1.vs
theorem mvals_any (A B:List Vl) (va vb:Value) (w:World) (hA:SV w va A) (hB:SV w vb B) (sA:A.length≤256) (sB:B.length≤256) (fA:∀ x ∈ A,Fit x) (fB:∀ x ∈ B,Fit x) (oA:Srd A) (oB:Srd B) :
  Calls Tryz.prog 295 #[va,vb] w fun e w'=>MvQ w (mAllV A B) e w':=by
 obtain ⟨ao,b,o,cap,RA,rfl,eA,lA,kA,rA,zA⟩:=hA.lf
 obtain ⟨bo,c,p,cap',RB,rfl,eB,lB,kB,rB,zB⟩:=hB.lf
 refine mvals_walk _ _ w (mAllV A B) (by rw [mAllV_len];omega) (fun x hx=>?_) (no3_of oA oB) (fun _=>?_)
 ·rcases mAllV_mem hx with h | h
  ·exact fA x h
  ·exact fB x h
 ·rw [← lA,← lB]
  refine (merge_walk ao bo b o cap c p cap' RA RB w kA kB rA rB zA zB (by omega) (by omega)).mono ?_
  rintro e w' ⟨v,rfl,hG⟩
  refine ⟨v,rfl,?_,hG.below⟩
  have:=hG.sv (fun r hr=>by
   rcases mAll_mem hr with h | h
   ·exact ⟨(zA r h).1.below hG.below,(zA r h).2.below hG.below⟩
   ·exact ⟨(zB r h).1.below hG.below,(zB r h).2.below hG.below⟩)
  rw [mAll_map,eA,eB] at this
  exact this
structure Mb (w:World) (a b:Sn) (ua ub:Value) (W:World):Prop where
 g1:W.heap[w.heap.size]? =some (.cells #[.int .i64 a.p,ua,.int .u64 (a.r:Int)] 50 (0,0))
 g2:W.heap[w.heap.size+1]? =some (.cells #[.int .i64 b.p,ub,.int .u64 (b.r:Int)] 50 (0,0))
 g3:W.heap[w.heap.size+1+1]? =some (.cells #[.int .i64 0,.slice none 0 0,.int .u64 0] 50 (0,0))
 bl:Below w.heap.size w W
theorem Mb.below {w W W1:World} {a b:Sn} {ua ub:Value} (h:Mb w a b ua ub W) (hb:Below W.heap.size W W1):Mb w a b ua ub W1:=⟨hkN h.g1 hb,hkN h.g2 hb,hkN h.g3 hb,bt h.bl hb⟩
theorem three_cells {W:World} {b:Nat} {x y z:Value} {t:TypeId} (h:W.heap[b]? =some (.cells #[x,y,z] t (0,0))):W.cell? ⟨b,0,none⟩=some x∧W.cell? ⟨b,1,none⟩=some y∧W.cell? ⟨b,2,none⟩=some z∧W.frozen? ⟨b,0,none⟩=false∧W.frozen? ⟨b,1,none⟩=false∧W.frozen? ⟨b,2,none⟩=false:=by
 refine ⟨?_,?_,?_,?_,?_,?_⟩ <;> simp [World.cell?,World.frozen?,h]
theorem Mb.new (w:World) (a b:Sn) (ua ub:Value):Mb w a b ua ub (((w.alloc (.cells #[.int .i64 a.p,ua,.int .u64 (a.r:Int)] 50)).alloc (.cells #[.int .i64 b.p,ub,.int .u64 (b.r:Int)] 50)).alloc (.cells #[.int .i64 0,.slice none 0 0,.int .u64 0] 50)):=by
 have n1:=new_1 w (.cells #[.int .i64 a.p,ua,.int .u64 (a.r:Int)] 50)
 have n2:=new_1 (w.alloc (.cells #[.int .i64 a.p,ua,.int .u64 (a.r:Int)] 50)) (.cells #[.int .i64 b.p,ub,.int .u64 (b.r:Int)] 50)
 have n3:=new_1 ((w.alloc (.cells #[.int .i64 a.p,ua,.int .u64 (a.r:Int)] 50)).alloc (.cells #[.int .i64 b.p,ub,.int .u64 (b.r:Int)] 50)) (.cells #[.int .i64 0,.slice none 0 0,.int .u64 0] 50)
 have e1:(w.alloc (.cells #[.int .i64 a.p,ua,.int .u64 (a.r:Int)] 50)).heap.size=w.heap.size+1:=by simp
 have e2:((w.alloc (.cells #[.int .i64 a.p,ua,.int .u64 (a.r:Int)] 50)).alloc (.cells #[.int .i64 b.p,ub,.int .u64 (b.r:Int)] 50)).heap.size=w.heap.size+1+1:=by simp
 rw [e1] at n2
 rw [e2] at n3
 exact ⟨hkN (hkN n1 (bel1 _ _)) (bel1 _ _),hkN n2 (bel1 _ _),n3,bt (bt (bel1 _ _) (bel1 _ _)) (bel1 _ _)⟩
def put3 (W:World) (b:Nat) (x y z:Value):World:=((W.setCell ⟨b,0,none⟩ x).setCell ⟨b,1,none⟩ y).setCell ⟨b,2,none⟩ z
theorem put3_eq (W:World) (b:Nat) (x y z:Value):((W.setCell ⟨b,0,none⟩ x).setCell ⟨b,1,none⟩ y).setCell ⟨b,2,none⟩ z=put3 W b x y z:=rfl
theorem set_three {W:World} {b:Nat} {u0 u1 u2 x y z:Value} {t:TypeId} (h:W.heap[b]? =some (.cells #[u0,u1,u2] t (0,0))):(put3 W b x y z).heap[b]? =some (.cells #[x,y,z] t (0,0)):=by
 have h1:(W.setCell ⟨b,0,none⟩ x).heap[b]? =some (.cells #[x,u1,u2] t (0,0)):=by rw [heap_setCell_same _ b 0 _ _ _ h];rfl
 have h2:((W.setCell ⟨b,0,none⟩ x).setCell ⟨b,1,none⟩ y).heap[b]? =some (.cells #[x,y,u2] t (0,0)):=by rw [heap_setCell_same _ b 1 _ _ _ h1];rfl
 unfold put3
 rw [heap_setCell_same _ b 2 _ _ _ h2];rfl
theorem put3_bel {a W:World} {B b:Nat} (h:Below B a W) (hb:B≤b) (x y z:Value):Below B a (put3 W b x y z):=((h.setCell (p:=⟨b,0,none⟩) hb x).setCell (p:=⟨b,1,none⟩) hb y).setCell (p:=⟨b,2,none⟩) hb z
theorem own_put3 {W:World} {B b:Nat} {e:TypeId} {s n:Nat} {v:Value} {xs:List Value} (h:W.ownsRow B e s v n xs) (ha:v.ownBlock≠some b) (x y z:Value):(put3 W b x y z).ownsRow B e s v n xs:=own_set (own_set (own_set h (a:=⟨b,0,none⟩) ha x) (a:=⟨b,1,none⟩) ha y) (a:=⟨b,2,none⟩) ha z
theorem JV.rebase3 {w0 w W:World} {v:Value} {J:List Rv} (h:JV w v J W) (hb:Below w0.heap.size w0 w) {b:Nat} (h1:w0.heap.size≤b) (h2:b < w.heap.size) (x y z:Value):JV w0 v J (put3 W b x y z):=by
 have h3:=h.rebase hb
 refine ⟨⟨own_leG (own_put3 h.g.own (own_ne h.g.own h2) x y z) hb.size,put3_bel h3.g.below h1 x y z,?_⟩,fun r hr=>?_,h.dj⟩
 ·unfold put3
  simp only [World.setCell,Array.size_modify]
  exact h3.g.size
 ·obtain ⟨k1,k2⟩:=h.el r hr
  exact ⟨own_leG (own_put3 k1 (own_ne k1 h2) x y z) hb.size,own_leG (own_put3 k2 (own_ne k2 h2) x y z) hb.size⟩
theorem mg_err {w W:World} {a b:Sn} {e:Int} (h:mgS a b=(zS,e)) (hb:Below w.heap.size w W):MgQ w a b (.returned (.tuple #[.agg #[.int .i64 0,.slice none 0 0,.int .u64 0],.int .i64 e])) W :=
 ⟨.slice none 0 0,[],by rw [h];rfl,hb,⟨GV.nil hb hb.size,(fun r hr=>by cases hr),Dj.nil⟩,by rw [h];rfl⟩
theorem merge_any (a b:Sn) (v u:Value) (ha:SnW a) (hb:SnW b) (w:World) (hv:SnAt w a v) (hu:SnAt w b u) :
  Calls Tryz.prog 288 #[v,u] w fun e w'=>MgQ w a b e w':=by
 obtain ⟨ua,rfl,sa⟩:=hv
 obtain ⟨ub,rfl,sb⟩:=hu
 have HC1:Hid (∀ W,Below w.heap.size w W→Calls Tryz.prog 16 #[.agg #[.int .i64 a.p,ua,.int .u64 (a.r:Int)]] W fun e w'=>e=two (chkS a).1 ((chkS a).2:Nat)∧Below W.heap.size W w'):=fun W h=>check_any a _ ha W ⟨ua,rfl,sa.below h⟩
 have HC2:Hid (∀ W,Below w.heap.size w W→Calls Tryz.prog 16 #[.agg #[.int .i64 b.p,ub,.int .u64 (b.r:Int)]] W fun e w'=>e=two (chkS b).1 ((chkS b).2:Nat)∧Below W.heap.size W w'):=fun W h=>check_any b _ hb W ⟨ub,rfl,sb.below h⟩
 have HMv:Hid ((chkS a).1=0→(chkS b).1=0→∀ W,Below w.heap.size w W→Calls Tryz.prog 295 #[ua,ub] W fun e w'=>MvQ W (mAllV a.vs b.vs) e w'):=fun h1 h2 W h=>by
  obtain ⟨_,_,l1,k1⟩:=chkS_ok h1
  obtain ⟨_,_,l2,k2⟩:=chkS_ok h2
  refine mvals_any a.vs b.vs ua ub W (sa.below h) (sb.below h) l1 l2 (fun x hx=>?_) (fun x hx=>?_) (chkS_srd h1).1 (chkS_srd h2).1
  ·obtain ⟨i,hi,rfl⟩:=List.mem_iff_getElem.1 hx
   exact fit_of (ha.vs _ hx) (k1 i hi)
  ·obtain ⟨i,hi,rfl⟩:=List.mem_iff_getElem.1 hx
   exact fit_of (hb.vs _ hx) (k2 i hi)
 obtain ⟨ao,b1,o1,cp1,rfl,-⟩:=sa.open
 obtain ⟨bo,b2,o2,cp2,rfl,-⟩:=sb.open
 have HN:=hid_of (Mb.new w a b (.slice ao a.vs.length cp1) (.slice bo b.vs.length cp2))
 have HW:=hid_of (⟨ha.r,hb.r⟩:_∧_)
 obtain ⟨R,hR⟩:∃ R,mgS a b=R:=⟨_,rfl⟩
 have HRR:=hid_of hR
 unfold mgS at hR
 have HD:=hid_of hR
 clear hR
 clear sa sb ha hb
 generalize hk1:chkS a=ka at *
 generalize hk2:chkS b=kb at *
 obtain ⟨z1,y1⟩:=ka
 obtain ⟨z2,y2⟩:=kb
 simp only at HC1 HC2 HMv HD
 clear hk1 hk2
 go_enter Tryz.func288,Tryz.ntmps288
 go_upto_region 1 with fail
 generalize ((w.alloc (.cells #[.int .i64 a.p,.slice ao a.vs.length cp1,.int .u64 (a.r:Int)] 50)).alloc (.cells #[.int .i64 b.p,.slice bo b.vs.length cp2,.int .u64 (b.r:Int)] 50)).alloc (.cells #[.int .i64 0,.slice none 0 0,.int .u64 0] 50)=w0 at HN ⊢
 obtain ⟨c0,c1,c2,_,_,_⟩:=three_cells HN.out.g1
 go_upto_region 2 with (go_at_call 16;with_reducible refine (HC1.out _ HN.out.bl).mono ?_;rintro e w1 ⟨rfl,hb1⟩)
 have HJ1:=hid_of (HN.out.below hb1)
 clear c0 c1 c2 HN HC1 hb1
 by_cases hz1:z1=0
 ·have hz1':(z1 != 0)=false:=by simpa using hz1
  have HMv1:=hid_of (HMv.out hz1)
  rw [if_neg (by simpa using hz1)] at HD
  clear hz1 HMv
  obtain ⟨d0,d1,d2,_,_,_⟩:=three_cells HJ1.out.g2
  go_upto_region 5 with (go_at_call 16;with_reducible refine (HC2.out _ HJ1.out.bl).mono ?_;rintro e w2 ⟨rfl,hb2⟩)
  have HJ2:=hid_of (HJ1.out.below hb2)
  clear d0 d1 d2 HJ1 HC2 hb2
  by_cases hz2:z2=0
  ·have hz2':(z2 != 0)=false:=by simpa using hz2
   have HMv2:=hid_of (HMv1.out hz2)
   rw [if_neg (by simpa using hz2)] at HD
   clear hz2 HMv1
   obtain ⟨c0,c1,c2,_,_,_⟩:=three_cells HJ2.out.g1
   obtain ⟨d0,d1,d2,_,_,_⟩:=three_cells HJ2.out.g2
   by_cases hp:a.p=b.p
   ·have hp':(a.p != b.p)=false:=by simpa using hp
    rw [if_neg (by simpa using hp)] at HD
    clear hp
    generalize hL:mAllV a.vs b.vs=L at *
    clear hL
    go_upto_region 10 with (go_at_call 295;(with_reducible refine (HMv2.out _ HJ2.out.bl).mono ?_);rintro e w3 ⟨u3,J3,rfl,hb3,hj3⟩)
    have HJ3:=hid_of (HJ2.out.below hb3)
    have HV3:=hid_of hj3
    have HB2:=hid_of HJ2.out.bl
    have HS2:Hid (w.heap.size+1+1 < w2.heap.size):=(Array.getElem?_eq_some_iff.1 HJ2.out.g3).1
    clear c0 c1 c2 d0 d1 d2 HJ2 HMv2 hb3 hj3
    obtain ⟨ml,hml⟩:∃ ml,mvL L=ml:=⟨_,rfl⟩
    rw [hml] at HD HV3 ⊢
    clear hml
    obtain ⟨mv,me⟩:=ml
    simp only at HD HV3 ⊢
    by_cases hme:me=0
    ·have hme':(me != 0)=false:=by simpa using hme
     obtain ⟨hv1,hv2⟩:=HV3.out hme
     have HVs:=hid_of (⟨fun x y z=>hv1.rebase3 HB2.out (b:=w.heap.size+1+1) (by omega) HS2.out x y z,hv2⟩:(∀ x y z,_)∧_)
     obtain ⟨ua3,ug3,uc3,rfl,-⟩:=own_slice hv1.g.own
     rw [if_neg (by simpa using hme)] at HD
     clear hme HV3 hv1 hv2
     obtain ⟨c0,c1,c2,_,_,_⟩:=three_cells HJ3.out.g1
     obtain ⟨d0,d1,d2,_,_,_⟩:=three_cells HJ3.out.g2
     obtain ⟨Rn,hRn⟩:∃ Rn,(a.r+b.r) % 18446744073709551616=Rn:=⟨_,rfl⟩
     have hwr:=wrap_n a.r b.r
     rw [hRn] at hwr HD
     clear hRn
     obtain ⟨s0,s1,s2,f0,f1,f2⟩:=three_cells HJ3.out.g3
     by_cases hlr:Rn < a.r
     ·have hlr':(Rn:Int) < (a.r:Int):=by omega
      rw [if_pos hlr] at HD
      clear hlr HVs
      go_wp2_with fail
      rw [put3_eq]
      obtain ⟨y0,y1,y2,_,_,_⟩:=three_cells (set_three (x:=.int .i64 0) (y:=.slice none 0 0) (z:=.int .u64 0) HJ3.out.g3)
      simp [bodyPost,results,go_sem,y0,y1,y2]
      exact mg_err (HRR.out.trans HD.out.symm) (put3_bel HJ3.out.bl (by omega) _ _ _)
     ·have hlr':¬ (Rn:Int) < (a.r:Int):=by omega
      rw [if_neg hlr] at HD
      clear hlr
      go_wp2_with fail
      rw [put3_eq]
      obtain ⟨y0,y1,y2,_,_,_⟩:=three_cells (set_three (x:=.int .i64 a.p) (y:=.slice ua3 J3.length uc3) (z:=.int .u64 (Rn:Int)) HJ3.out.g3)
      simp [bodyPost,results,go_sem,y0,y1,y2]
      have hE:=HRR.out.trans HD.out.symm
      exact ⟨.slice ua3 J3.length uc3,J3,by rw [hE],put3_bel HJ3.out.bl (by omega) _ _ _,HVs.out.1 _ _ _,by rw [hE];exact HVs.out.2⟩
    ·have hme':(me != 0)=true:=by simpa using hme
     rw [if_pos hme] at HD
     clear hme HV3
     obtain ⟨s0,s1,s2,f0,f1,f2⟩:=three_cells HJ3.out.g3
     go_wp2_with fail
     rw [put3_eq]
     obtain ⟨y0,y1,y2,_,_,_⟩:=three_cells (set_three (x:=.int .i64 0) (y:=.slice none 0 0) (z:=.int .u64 0) HJ3.out.g3)
     simp [bodyPost,results,go_sem,y0,y1,y2]
     exact mg_err (HRR.out.trans HD.out.symm) (put3_bel HJ3.out.bl (by omega) _ _ _)
   ·have hp':(a.p != b.p)=true:=by simpa using hp
    rw [if_pos hp] at HD
    clear hp HMv2
    obtain ⟨s0,s1,s2,f0,f1,f2⟩:=three_cells HJ2.out.g3
    go_wp2_with fail
    rw [put3_eq]
    obtain ⟨y0,y1,y2,_,_,_⟩:=three_cells (set_three (x:=.int .i64 0) (y:=.slice none 0 0) (z:=.int .u64 0) HJ2.out.g3)
    simp [bodyPost,results,go_sem,y0,y1,y2]
    exact mg_err (HRR.out.trans HD.out.symm) (put3_bel HJ2.out.bl (by omega) _ _ _)
  ·have hz2':(z2 != 0)=true:=by simpa using hz2
   rw [if_pos hz2] at HD
   clear hz2 HMv1
   obtain ⟨s0,s1,s2,f0,f1,f2⟩:=three_cells HJ2.out.g3
   go_wp2_with fail
   rw [put3_eq]
   obtain ⟨y0,y1,y2,_,_,_⟩:=three_cells (set_three (x:=.int .i64 0) (y:=.slice none 0 0) (z:=.int .u64 0) HJ2.out.g3)
   simp [bodyPost,results,go_sem,y0,y1,y2]
   exact mg_err (HRR.out.trans HD.out.symm) (put3_bel HJ2.out.bl (by omega) _ _ _)
 ·have hz1':(z1 != 0)=true:=by simpa using hz1
  rw [if_pos hz1] at HD
  clear hz1 HMv HC2
  obtain ⟨s0,s1,s2,f0,f1,f2⟩:=three_cells HJ1.out.g3
  go_wp2_with fail
  rw [put3_eq]
  obtain ⟨y0,y1,y2,_,_,_⟩:=three_cells (set_three (x:=.int .i64 0) (y:=.slice none 0 0) (z:=.int .u64 0) HJ1.out.g3)
  simp [bodyPost,results,go_sem,y0,y1,y2]
  exact mg_err (HRR.out.trans HD.out.symm) (put3_bel HJ1.out.bl (by omega) _ _ _)
end Go.Proofs.YtlgkfeeclgcgbaaGreatDoor
/- COPIES OF SNAPSHOTS: the document's Copy. Own work of the verifier. -/
namespace Go.Proofs.YtlgkfeeclgcgbaaGreatDoor
open Go.RowKit Me
def CyQ (w:World) (s:Sn) (e:Ending) (w':World):Prop:=∃ u J,e=.returned (.agg #[.int .i64 s.p,u,.int .u64 (s.r:Int)])∧Below w.heap.size w w'∧JV w u J w'∧J.map (·.1)=s.vs
end Go.Proofs.YtlgkfeeclgcgbaaGreatDoor
