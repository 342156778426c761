/- THE CODE'S series AND Parse. Own work of the verifier. -/
import Derived.Test.YtlgkfeeclgcgbaaGreatDoorZAR
import Derived.Test.YtlgkfeeclgcgbaaGreatDoorZAO
set_option maxRecDepth 100000
set_option maxHeartbeats 8000000
namespace Go.Proofs.YtlgkfeeclgcgbaaGreatDoor.La
open Go.RowKit
def parR (l:List UInt8):Except (Int × Nat) (List UInt8 × List Lb) :=
 if nameB (l.take (rowN true l))=false then .error (9,0)
 else if rowN true l=l.length then .ok (l.take (rowN true l),[])
 else if preB (l.drop (rowN true l)) [123]=false then .error (5,rowN true l)
 else match labsF 17 l (rowN true l+1) [] with
  | .error e=>.error e
  | .ok (L,k)=>if k=l.length then .ok (l.take (rowN true l),L) else .error (5,k)
def TellsS (l:List UInt8) (B:Nat) (e:Ending) (j:Nat) (W:World):Prop :=
 (∃ z x v,parR l=.error (z,j)∧z≠0∧e=.returned (.tuple #[.string x,v,.int .i64 z])) ∨
 (∃ (n:List UInt8) (L:List Lb) (v:Value),parR l=.ok (n,L)∧e=.returned (.tuple #[.string ⟨n.toArray⟩,v,.int .i64 0])∧OwnL B v L W)
theorem OwnL.below {B:Nat} {v:Value} {L:List Lb} {W W1:World} (h:OwnL B v L W) (hb:Below W.heap.size W W1):OwnL B v L W1:=by
 refine World.ownsRow.kept (row:=none) h ⟨hb.os,hb.tape,hb.output,hb.size,fun k hk _=>hb.block k hk⟩ ?_
 cases hv:v.ownBlock <;> simp
theorem OwnL.mono {B B':Nat} {v:Value} {L:List Lb} {W:World} (h:OwnL B v L W) (hB:B'≤B):OwnL B' v L W:=by
 refine ⟨h.1,?_⟩
 rcases h.2 with h1 | ⟨g,cap,cur,hv,hg,r⟩
 ·exact Or.inl h1
 ·exact Or.inr ⟨g,cap,cur,hv,by omega,r⟩
theorem OwnL.nil (B:Nat) (W:World):OwnL B (.slice none 0 0) [] W:=⟨rfl,Or.inl ⟨rfl,rfl⟩⟩
theorem cser_any (g:Nat) (l:List UInt8) (hl:l.length≤140737488355328) (w:World) (hr:RdAt w g l 0) :
  Calls Tryz.prog 151 #[.pointer (some ⟨g,0,none⟩)] w fun r w'=>∃ j,TellsS l w.heap.size r j w'∧Ex g w w'∧RdAt w' g l j:=by
 obtain ⟨c0,c1,c2⟩:=hr.cells
 obtain ⟨n,hn⟩:∃ n,n=rowN true l:=⟨_,rfl⟩
 have hnl:=rowN_le true l
 rw [← hn] at hnl
 obtain ⟨nm,hnm⟩:∃ nm,nm=l.take n:=⟨_,rfl⟩
 have hnml:nm.length=n:=by rw [hnm,List.length_take];omega
 have hnml':(nm.length:Int)=(n:Int):=by omega
 have hP:parR l=if nameB nm=false then .error (9,0)
  else if n=l.length then .ok (nm,[])
  else if preB (l.drop n) [123]=false then .error (5,n)
  else match labsF 17 l (n+1) [] with
   | .error e=>.error e
   | .ok (L,k)=>if k=l.length then .ok (nm,L) else .error (5,k):=by
  unfold parR
  rw [← hn,← hnm]
 have HW:Hid (∀ W,Calls Tryz.prog 55 #[.string ⟨l.toArray⟩,fv true] W fun r w'=>r=.returned (.string ⟨nm.toArray⟩)∧w'=W):=fun W=>by rw [hnm,hn];exact crow_any l true (by omega) W
 have HN:Hid (∀ W,Calls Tryz.prog 22 #[.string ⟨nm.toArray⟩] W fun r w'=>r=.returned (.bool (nameB nm))∧w'=W):=fun W=>cname_any nm (by omega) W
 have HCl:Hid (∀ W,Calls Tryz.prog 28 #[.string ⟨nm.toArray⟩] W fun r w'=>r=.returned (.string ⟨nm.toArray⟩)∧Below W.heap.size W w'):=fun W=>clone_any nm (by omega) W
 have HR:Hid (∀ (j:Nat),j≤l.length→∀ W,RdAt W g l j→Calls Tryz.prog 165 #[.pointer (some ⟨g,0,none⟩)] W fun r w'=>r=.returned (.string ⟨(l.drop j).toArray⟩)∧∃ m,w'=W.drewN m):=fun j hj W h=>rest_any g j l hj W h
 have HT:Hid (∀ W,RdAt W g l n→Calls Tryz.prog 166 #[.pointer (some ⟨g,0,none⟩),.string ⟨#[123]⟩] W fun r w'=>r=.returned (.bool (preB (l.drop n) [123]))∧Ex g W w'∧RdAt w' g l (if preB (l.drop n) [123] then n+1 else n)):=fun W h=>take_any g n l [123] hnl (by omega) W h
 have HL:Hid (∀ W,n+1≤l.length→RdAt W g l (n+1)→Calls Tryz.prog 167 #[.pointer (some ⟨g,0,none⟩)] W fun r w'=>∃ j,TellsLs l (n+1) W.heap.size r j w'∧Ex g W w'∧RdAt w' g l j):=fun W h0 h=>clabs_any g (n+1) l h0 hl W h
 have HQ:preB (l.drop n) [123]=true→n+1≤l.length:=fun h=>by rw [pre_one,decide_eq_true_eq] at h;omega
 have HRd:Hid (RdAt w g l 0):=hr
 unfold fv at HW
 have hnb:(n:Int)≤140737488355328:=by omega
 clear hr hn hnm hnml
 generalize nameB nm=nb at *
 cases nb
 ·rw [if_pos rfl] at hP
  have HP:Hid _:=hP
  clear hP HCl HR HT HL HQ
  as_aux_lemma =>
   go_enter Tryz.func151,Tryz.ntmps151
   go_wp2_with (first | (go_at_call 55;refine (HW.out _).mono ?_;rintro e1 w1 ⟨rfl,rfl⟩) | (go_at_call 22;refine (HN.out _).mono ?_;rintro e1 w1 ⟨rfl,rfl⟩))
   go_ret3
   exact ⟨0,Or.inl ⟨9,_,_,HP.out,by decide,rfl⟩,Ex.refl _ _,HRd.out⟩
 rw [if_neg (by decide)] at hP
 have HPP:Hid _:=hP
 have HX0:Hid (Ex g w (w.setCell ⟨g,1,none⟩ (.int .i64 (n:Int)))):=(Ex.refl g w).set _ _
 have HR0:Hid (RdAt (w.setCell ⟨g,1,none⟩ (.int .i64 (n:Int))) g l n):=RdAt.set HRd.out n
 clear hP HRd
 go_enter Tryz.func151,Tryz.ntmps151
 go_wp2_with (first | (go_at_call 55;refine (HW.out _).mono ?_;rintro e1 w1 ⟨rfl,hw1⟩;subst w1) | (go_at_call 22;refine (HN.out _).mono ?_;rintro e1 w1 ⟨rfl,hw1⟩;subst w1))
 refine (HCl.out _).mono ?_
 rintro e w1 ⟨rfl,hb⟩
 have HX1:Hid (Ex g w w1):=HX0.out.trans (Ex.of hb)
 have hr1:RdAt w1 g l n:=RdAt.below HR0.out hb
 have HC1:HidC _ _ _ _ _:=HR.out n hnl w1 hr1
 have HR1:Hid (RdAt w1 g l n):=hr1
 clear HW HN HCl HX0 HR0 hb hr1 c0 c1 c2
 go_wp2_with fail
 refine (HC1.out).mono ?_
 rintro e w2 ⟨rfl,m,rfl⟩
 have HX2:Hid (Ex g w (w1.drewN m)):=HX1.out.trans (Ex.of (below_drewN w1 m))
 have HR2:Hid (RdAt (w1.drewN m) g l n):=RdAt.drewN HR1.out m
 clear HC1 HX1 HR1
 generalize w1.drewN m=w2 at *
 by_cases g1:n=l.length
 ·have hd:(l.drop n == [])=true:=by rw [List.drop_eq_nil_of_le (by omega)];rfl
  have HF:Hid (parR l=.ok (nm,[])):=by show _=_;rw [HPP.out,if_pos g1]
  generalize l.drop n=dr at *
  clear HPP HR HT HL HQ g1
  as_aux_lemma =>
   go_wp2_with fail
   go_ret3
   exact ⟨n,Or.inr ⟨nm,[],_,HF.out,rfl,OwnL.nil _ _⟩,HX2.out,HR2.out⟩
 have hd:(l.drop n == [])=false:=by
  rw [beq_eq_false_iff_ne]
  intro e
  have:=congrArg List.length e
  rw [List.length_drop] at this
  exact g1 (by simp at this;omega)
 have HP2:Hid _:=HPP.out
 have hP:=HPP.out
 rw [if_neg g1] at hP
 have HT1:HidC _ _ _ _ _:=HT.out w2 HR2.out
 have HP3:Hid _:=hP
 clear HPP HP2 hP HT HR2 g1
 generalize hbq:preB (l.drop n) [123]=bq at *
 obtain ⟨dr,hdr⟩:∃ dr,dr=l.drop n:=⟨_,rfl⟩
 rw [← hdr] at hd ⊢
 clear hdr hbq
 cases bq
 ·have HF:Hid (parR l=.error (5,n)):=by have:=HP3.out;rw [if_pos rfl] at this;exact this
  clear HP3 HL HQ HR
  as_aux_lemma =>
   go_wp2_with fail
   refine (HT1.out).mono ?_
   rintro e w3 ⟨rfl,hx,hrd⟩
   have HX3:Hid (Ex g w w3):=HX2.out.trans hx
   have HR3:Hid (RdAt w3 g l n):=hrd
   clear HT1 HX2 hx hrd
   go_wp2_with fail
   go_ret3
   exact ⟨n,Or.inl ⟨5,_,_,HF.out,by decide,rfl⟩,HX3.out,HR3.out⟩
 have hq:=HQ rfl
 have hP4:=HP3.out
 rw [if_neg (by decide)] at hP4
 have HP4:Hid _:=hP4
 clear HP3 HQ hP4
 go_wp2_with fail
 refine (HT1.out).mono ?_
 rintro e w3 ⟨rfl,hx,hrd⟩
 have HX3:Hid (Ex g w w3):=HX2.out.trans hx
 have HL1:HidC _ _ _ _ _:=HL.out w3 hq hrd
 clear HT1 HX2 hx hrd HL
 go_wp2_with fail
 refine (HL1.out).mono ?_
 rintro e w4 ⟨k,hT,hx,hrd⟩
 have HX4:Hid (Ex g w w4):=HX3.out.trans hx
 have HR4:Hid (RdAt w4 g l k):=hrd
 have hB:w.heap.size≤w3.heap.size:=HX3.out.size
 clear HL1 HX3 hx hrd
 rcases hT with ⟨z,ho,hz,rfl⟩ | ⟨L,v,ho,hk,rfl,hown⟩
 ·have HF:Hid (parR l=.error (z,k)):=by show _=_;rw [HP4.out,ho]
  have hz':(z == 0)=false:=by simpa using hz
  have HZ:Hid _:=hz
  clear HP4 ho hz HR
  as_aux_lemma =>
   go_wp2_with fail
   go_ret3
   exact ⟨k,Or.inl ⟨z,_,_,HF.out,HZ.out,rfl⟩,HX4.out,HR4.out⟩
 ·have HC4:HidC _ _ _ _ _:=HR.out k hk w4 HR4.out
  have HO4:Hid _:=hown.mono hB
  have hP:=HP4.out
  rw [ho] at hP
  simp only at hP
  clear HR ho HP4 hown
  by_cases gk:k=l.length
  ·have hd2:(l.drop k).isEmpty=true:=by rw [List.drop_eq_nil_of_le (by omega)];rfl
   rw [if_pos gk] at hP
   have HF:Hid _:=hP
   generalize l.drop k=dk at *
   clear hP gk
   as_aux_lemma =>
    go_wp2_with fail
    refine (HC4.out).mono ?_
    rintro e w5 ⟨rfl,m2,rfl⟩
    have HX5:Hid _:=HX4.out.trans (Ex.of (below_drewN w4 m2))
    have HR5:Hid _:=RdAt.drewN HR4.out m2
    have HO5:Hid _:=OwnL.below HO4.out (below_drewN w4 m2)
    clear HC4 HX4 HR4 HO4
    go_wp2_with fail
    go_ret3
    exact ⟨k,Or.inr ⟨nm,L,v,HF.out,rfl,HO5.out⟩,HX5.out,HR5.out⟩
  ·have hd2:(l.drop k).isEmpty=false:=by
    rw [List.isEmpty_eq_false_iff]
    intro e
    have:=congrArg List.length e
    rw [List.length_drop] at this
    exact gk (by simp at this;omega)
   rw [if_neg gk] at hP
   have HF:Hid _:=hP
   generalize l.drop k=dk at *
   clear hP gk HO4
   as_aux_lemma =>
    go_wp2_with fail
    refine (HC4.out).mono ?_
    rintro e w5 ⟨rfl,m2,rfl⟩
    have HX5:Hid _:=HX4.out.trans (Ex.of (below_drewN w4 m2))
    have HR5:Hid _:=RdAt.drewN HR4.out m2
    clear HC4 HX4 HR4
    go_wp2_with fail
    go_ret3
    exact ⟨k,Or.inl ⟨5,_,_,HF.out,by decide,rfl⟩,HX5.out,HR5.out⟩
theorem results_tmp4 {fn:Func} {t u v x:Tmp} (h:fn.results=#[.tmp t,.tmp u,.tmp v,.tmp x]) (tmps:Array Value) (P:Program) (w:World) :
  (results fn tmps).run P w=.ok (.tuple #[tmps.getD t undef,tmps.getD u undef,tmps.getD v undef,tmps.getD x undef]) w:=by
 simp [results,h]
def TellsC (l:List UInt8) (B:Nat) (e:Ending) (W:World):Prop :=
 (∃ (z:Int) (k:Nat),parR l=.error (z,k)∧z≠0∧e=.returned (.tuple #[.string ⟨#[]⟩,.slice none 0 0,.int .i64 z,.int .i64 (k:Int)])) ∨
 (∃ (n:List UInt8) (L:List Lb) (v:Value),parR l=.ok (n,L)∧e=.returned (.tuple #[.string ⟨n.toArray⟩,v,.int .i64 0,.int .i64 0])∧OwnL B v L W)
theorem cparse_any (l:List UInt8) (hl:l.length≤140737488355328) (w:World) :
  Calls Tryz.prog 130 #[.string ⟨l.toArray⟩] w fun r w'=>TellsC l w.heap.size r w'∧Below w.heap.size w w':=by
 have HRd:Hid (RdAt (w.alloc (.cells #[.string ⟨l.toArray⟩,.int .i64 0] 235)) w.heap.size l 0):=by show (w.heap.push _)[w.heap.size]? =_;simp
 have HS:HidC _ _ _ _ _:=cser_any w.heap.size l hl _ HRd.out
 clear HRd
 go_enter Tryz.func130,Tryz.ntmps130
 go_wp2_with fail
 refine (HS.out).mono ?_
 rintro e w1 ⟨j,hT,hx,hrd⟩
 have hbl:Below w.heap.size w w1:=(bel1 w _).trans (hx.below (Nat.le_refl _) (by simp))
 obtain ⟨c0,c1,c2⟩:=hrd.cells
 clear HS hx hrd
 rcases hT with ⟨z,x,v,ho,hz,rfl⟩ | ⟨n,L,v,ho,rfl,hown⟩
 ·have hz':(z != 0)=true:=by simpa using hz
  have HO:Hid _:=ho
  have HZ:Hid _:=hz
  clear ho hz
  as_aux_lemma =>
   go_wp2_with fail
   go_quiet (fail)
   go_wp2_with fail
   (try simp only [Exit.inBlock,Exit.then]);refine bodyPost_ret (results_tmp4 rfl _ _ _) rfl ?_
   exact ⟨Or.inl ⟨z,j,HO.out,HZ.out,rfl⟩,bel_drewN hbl _⟩
 ·have HO:Hid _:=ho
  have HW:Hid (OwnL w.heap.size v L w1):=hown.mono (by simp)
  clear ho hown
  as_aux_lemma =>
   go_wp2_with fail
   (try simp only [Exit.inBlock,Exit.then]);refine bodyPost_ret (results_tmp4 rfl _ _ _) rfl ?_
   exact ⟨Or.inr ⟨n,L,v,HO.out,rfl,HW.out⟩,hbl⟩
end Go.Proofs.YtlgkfeeclgcgbaaGreatDoor.La
/- THE MATHEMATICS OF THE ORDER, AND OF TEXTS THERE AND BACK: helps and values. Own work of the verifier. -/
namespace Go.Proofs.YtlgkfeeclgcgbaaGreatDoor.La
theorem val_esc:∀ (m:Nat) (l:List UInt8),l.length=m→∀ p t k,valR l p=.ok (t,k)→∃ rest,l=escL true t++34::rest∧k=p+(escL true t).length+1:=by
 intro m
 induction m using Nat.strongRecOn with
 | ind m ih =>
  intro l hl p t k h
  cases l with
  | nil=>rw [valR] at h;cases h
  | cons b r =>
   rw [valR.eq_def] at h
   simp only at h
   by_cases h34:b.toNat=34
   ·rw [if_pos h34] at h
    cases h
    have hb:b=34:=UInt8.toNat_inj.1 h34
    subst hb
    exact ⟨r,rfl,rfl⟩
   rw [if_neg h34] at h
   by_cases h10:b.toNat=10
   ·rw [if_pos h10] at h;cases h
   rw [if_neg h10] at h
   by_cases h92:b.toNat=92
   ·rw [if_pos h92] at h
    have hb:b=92:=UInt8.toNat_inj.1 h92
    subst hb
    cases r with
    | nil=>simp only at h;cases h
    | cons c r' =>
     simp only at h
     by_cases c1:c.toNat=92∨c.toNat=34
     ·rw [if_pos c1] at h
      cases hv:valR r' (p+2) with
      | error e=>rw [hv] at h;cases h
      | ok q =>
       obtain ⟨s,j⟩:=q
       rw [hv] at h
       cases h
       obtain ⟨rest,e1,e2⟩:=ih r'.length (by simp at hl;omega) r' rfl (p+2) s j hv
       refine ⟨rest,?_,?_⟩
       ·rw [escL]
        unfold esc1
        rw [if_pos (by simpa using c1)]
        show 92::c::r'=92::c::(escL true s++34::rest)
        rw [← e1]
       ·rw [escL]
        unfold esc1
        rw [if_pos (by simpa using c1)]
        simp only [List.length_append,List.length_cons,List.length_nil]
        show j=_
        omega
     ·rw [if_neg c1] at h
      by_cases c2:c.toNat=110
      ·rw [if_pos c2] at h
       have hc:c=110:=UInt8.toNat_inj.1 c2
       subst hc
       cases hv:valR r' (p+2) with
       | error e=>rw [hv] at h;cases h
       | ok q =>
        obtain ⟨s,j⟩:=q
        rw [hv] at h
        cases h
        obtain ⟨rest,e1,e2⟩:=ih r'.length (by simp at hl;omega) r' rfl (p+2) s j hv
        refine ⟨rest,?_,?_⟩
        ·rw [escL]
         show 92::110::r'=92::110::(escL true s++34::rest)
         rw [← e1]
        ·rw [escL]
         show j=p+([92,110]++escL true s).length+1
         simp only [List.length_append,List.length_cons,List.length_nil]
         omega
      ·rw [if_neg c2] at h;cases h
   ·rw [if_neg h92] at h
    cases hv:valR r (p+1) with
    | error e=>rw [hv] at h;cases h
    | ok q =>
     obtain ⟨s,j⟩:=q
     rw [hv] at h
     cases h
     obtain ⟨rest,e1,e2⟩:=ih r.length (by simp at hl;omega) r rfl (p+1) s j hv
     have he:esc1 true b=[b]:=by
      unfold esc1
      rw [if_neg (by simp [h92,h34]),if_neg h10]
     refine ⟨rest,?_,?_⟩
     ·rw [escL,he]
      show b::r=b::(escL true s++34::rest)
      rw [← e1]
     ·rw [escL,he]
      simp only [List.length_append,List.length_cons,List.length_nil]
      show j=_
      omega
end Go.Proofs.YtlgkfeeclgcgbaaGreatDoor.La
/- SERIES THERE AND BACK. Own work of the verifier. -/
namespace Go.Proofs.YtlgkfeeclgcgbaaGreatDoor.La
theorem drop_more (l X Y:List UInt8) (p:Nat) (h:l.drop p=X++Y):l.drop (p+X.length)=Y:=by
 rw [← List.drop_drop,h]
 simp
theorem ple_iff (L:List Lb) (n:List UInt8):plE L n=0 ↔ ¬ (L.length≠0∧bhE (L.getD (L.length - 1) ([],[])).1 n≠0):=by
 unfold plE
 by_cases h0:L.length=0
 ·simp [h0]
 ·simp [h0]
theorem head_drop (l:List UInt8) (k:Nat) (c:UInt8) (h:(l.getD k 0).toNat=c.toNat) (hc:c.toNat≠0):l.drop k=c::l.drop (k+1)∧k < l.length:=by
 have hk:k < l.length:=by
  rcases Nat.lt_or_ge k l.length with g | g
  ·exact g
  ·rw [List.getD_eq_getElem?_getD,List.getElem?_eq_none g] at h
   exact absurd h.symm hc
 rw [get_at l k hk] at h
 rw [List.drop_eq_getElem_cons hk,UInt8.toNat_inj.1 h]
 exact ⟨rfl,hk⟩
theorem one_read {l:List UInt8} {p:Nat} {L:List Lb} {a c:List UInt8} {k:Nat} (_hp:p≤l.length) (h:oneR l p L=.ok ((a,c),k)):l.drop p=lbT (a,c)++l.drop k∧lnameB a=true∧txE c=0∧plE L a=0∧L.length≠16∧k≤l.length:=by
 unfold oneR at h
 split at h
 ·cases h
 rename_i g1
 split at h
 ·cases h
 rename_i g2
 split at h
 ·cases h
 rename_i g3
 split at h
 ·cases h
 rename_i g4
 split at h
 ·cases h
 rename_i g5
 obtain ⟨n,hn⟩:∃ n,n=rowN false (l.drop p):=⟨_,rfl⟩
 rw [← hn] at h g4 g5
 have e4:(l.getD (p+n) 0).toNat=(61:UInt8).toNat:=by
  rcases Nat.decEq (l.getD (p+n) 0).toNat 61 with k | k
  ·exact absurd k g4
  ·exact k
 have e5:(l.getD (p+n+1) 0).toNat=(34:UInt8).toNat:=by
  rcases Nat.decEq (l.getD (p+n+1) 0).toNat 34 with k | k
  ·exact absurd k g5
  ·exact k
 obtain ⟨d1,_⟩:=head_drop l (p+n) 61 e4 (by decide)
 obtain ⟨d2,hlt⟩:=head_drop l (p+n+1) 34 e5 (by decide)
 split at h
 ·cases h
 ·rename_i q hq
  split at h
  ·cases h
  ·rename_i ht
   obtain ⟨t,j⟩:=q
   cases h
   have hsplit:l.drop p=nmAt l p++l.drop (p+n):=by
    unfold nmAt
    rw [← hn,← List.drop_drop,List.take_append_drop]
   obtain ⟨rest,r1,r2⟩:=val_esc _ _ rfl _ _ _ hq
   have hk:l.drop j=rest:=by
    have:=drop_more l (escL true t++[34]) rest (p+n+1+1) (by rw [show p+n+1+1=p+n+2 from rfl,r1];simp)
    rw [List.length_append] at this
    rw [← this]
    rw [r2]
    simp [Nat.add_assoc]
   have hfar:=val_far l _ _ _ (by omega) hq
   refine ⟨?_,by simpa using g2,by simpa using ht,(ple_iff L _).2 g3,g1,hfar.2.1⟩
   rw [hsplit,d1,d2,show p+n+1+1=p+n+2 from rfl,r1,hk]
   unfold lbT
   simp
def prJ:List Lb→List UInt8
 | []=>[]
 | a::r=>lbT a++prB false r
theorem prB_false (M:List Lb) (h:M≠[]):prB false M=44::prJ M:=by
 cases M with
 | nil=>exact absurd rfl h
 | cons a r=>rfl
def lastN (L:List Lb):Option (List UInt8):=if L.length=0 then none else some (L.getD (L.length - 1) ([],[])).1
theorem lastN_app (L:List Lb) (a:Lb):lastN (L++[a])=some a.1:=by
 unfold lastN
 rw [List.length_append,if_neg (by simp)]
 simp [List.getD_eq_getElem?_getD]
theorem chk_cons (L:List Lb) (a:Lb) (r:List Lb):chkL (a::r) (lastN L)=0 ↔ lnameB a.1=true∧txE a.2=0∧plE L a.1=0∧chkL r (some a.1)=0:=by
 rw [chkL.eq_def]
 simp only
 unfold plE lastN
 by_cases h1:lnameB a.1=true
 ·rw [if_neg (by rw [h1];decide)]
  by_cases h2:txE a.2=0
  ·rw [if_neg (fun k=>k h2)]
   by_cases h0:L.length=0
   ·simp [h0,h1,h2]
   ·simp only [h0,if_false]
    by_cases h3:bhE (L.getD (L.length - 1) ([],[])).1 a.1=0
    ·rw [if_neg (fun k=>k h3)]
     simp only [h1,h2,h3,true_and]
    ·rw [if_pos h3]
     exact ⟨fun k=>absurd k h3,fun k=>absurd k.2.2.1 h3⟩
  ·rw [if_pos h2]
   simp [h2]
 ·rw [if_pos (by simpa using h1)]
  simp [h1]
theorem labs_read:∀ (f:Nat) (l:List UInt8) (p:Nat) (L L':List Lb) (k:Nat),p≤l.length→L.length≤16→labsF f l p L=.ok (L',k)→∃ M,L'=L++M∧M≠[]∧l.drop p=prJ M++125::l.drop k∧chkL M (lastN L)=0∧L.length+M.length≤16∧k≤l.length
 | 0,_,_,_,_,_,_,_,h=>by rw [labsF] at h;cases h
 | f+1,l,p,L,L',k,hp,hL,h=>by
  rw [labsF] at h
  cases ho:oneR l p L with
  | error e=>rw [ho] at h;cases h
  | ok q =>
   obtain ⟨⟨a,c⟩,j⟩:=q
   rw [ho] at h
   simp only at h
   obtain ⟨o1,o2,o3,o4,o5,o6⟩:=one_read hp ho
   by_cases g1:preB (l.drop j) [125]=true
   ·rw [if_pos g1] at h
    cases h
    rw [pre_get l j 125 (by decide),decide_eq_true_eq] at g1
    obtain ⟨d1,hlt⟩:=head_drop l j 125 g1 (by decide)
    refine ⟨[(a,c)],rfl,by simp,?_,(chk_cons L (a,c) []).2 ⟨o2,o3,o4,by rw [chkL]⟩,by simp;omega,by omega⟩
    rw [o1,d1]
    simp [prJ,prB]
   ·rw [if_neg g1] at h
    by_cases g2:preB (l.drop j) [44]=true
    ·rw [if_pos g2] at h
     rw [pre_get l j 44 (by decide),decide_eq_true_eq] at g2
     obtain ⟨d1,hlt⟩:=head_drop l j 44 g2 (by decide)
     obtain ⟨M,m1,m2,m3,m4,m5,m6⟩:=labs_read f l (j+1) (L++[(a,c)]) L' k (by omega) (by rw [List.length_append];simp;omega) h
     refine ⟨(a,c)::M,by rw [m1];simp,by simp,?_,(chk_cons L (a,c) M).2 ⟨o2,o3,o4,by rw [lastN_app] at m4;exact m4⟩,by rw [List.length_append] at m5;simp at m5 ⊢;omega,m6⟩
     rw [o1,d1,m3,prJ,prB_false M m2]
     simp
    ·rw [if_neg g2] at h;cases h
theorem one_far {l:List UInt8} {p:Nat} {L:List Lb} {z:Int} {k:Nat} (hp:p≤l.length) (h:oneR l p L=.error (z,k)):k≤l.length:=by
 have hrl:=rowN_le false (l.drop p)
 rw [List.length_drop] at hrl
 unfold oneR at h
 obtain ⟨n,hn⟩:∃ n,n=rowN false (l.drop p):=⟨_,rfl⟩
 rw [← hn] at h hrl
 split at h
 ·cases h;omega
 split at h
 ·cases h;omega
 split at h
 ·cases h;omega
 split at h
 ·cases h;omega
 rename_i g4
 have e4:(l.getD (p+n) 0).toNat=(61:UInt8).toNat:=by
  rcases Nat.decEq (l.getD (p+n) 0).toNat 61 with k | k
  ·exact absurd k g4
  ·exact k
 obtain ⟨_,l4⟩:=head_drop l (p+n) 61 e4 (by decide)
 split at h
 ·cases h;omega
 rename_i g5
 have e5:(l.getD (p+n+1) 0).toNat=(34:UInt8).toNat:=by
  rcases Nat.decEq (l.getD (p+n+1) 0).toNat 34 with k | k
  ·exact absurd k g5
  ·exact k
 obtain ⟨_,l5⟩:=head_drop l (p+n+1) 34 e5 (by decide)
 split at h
 ·rename_i e he
  cases h
  rw [val_un l _ (p+n+2) rfl (by omega)] at he
  have hdl:(l.drop (p+n+2)).length=l.length - (p+n+2):=List.length_drop
  rcases ue_all true _ (l.drop (p+n+2)) rfl (p+n+2) with ⟨j,a1,a2,a3⟩ | ⟨t,j,a1,a2,_,a3⟩
  ·have:=a3 0
   rw [Nat.add_zero] at this
   rw [this] at he
   cases he
   omega
  ·have:=a3 0
   rw [Nat.add_zero] at this
   rw [this] at he
   simp only [Nat.add_zero] at he
   split at he
   ·cases he
   ·cases he
    omega
 ·split at h
  ·cases h;omega
  ·cases h
theorem labs_far:∀ (f:Nat) (l:List UInt8) (p:Nat) (L:List Lb) (z:Int) (k:Nat),p≤l.length→labsF f l p L=.error (z,k)→k≤l.length
 | 0,_,_,_,_,_,_,h=>by rw [labsF] at h;cases h;omega
 | f+1,l,p,L,z,k,hp,h=>by
  rw [labsF] at h
  cases ho:oneR l p L with
  | error e =>
   obtain ⟨z',k'⟩:=e
   rw [ho] at h
   cases h
   exact one_far hp ho
  | ok q =>
   obtain ⟨⟨a,c⟩,j⟩:=q
   rw [ho] at h
   simp only at h
   have hj:=(one_read hp ho).2.2.2.2.2
   split at h
   ·cases h
   split at h
   ·rename_i g2
    rw [pre_get l j 44 (by decide),decide_eq_true_eq] at g2
    obtain ⟨_,hlt⟩:=head_drop l j 44 g2 (by decide)
    exact labs_far f l (j+1) (L++[(a,c)]) z k (by omega) h
   ·cases h
    exact hj
theorem par_far (l:List UInt8) (z:Int) (k:Nat) (h:parR l=.error (z,k)):k≤l.length:=by
 unfold parR at h
 have hrl:=rowN_le true l
 split at h
 ·cases h;omega
 split at h
 ·cases h
 split at h
 ·cases h;exact hrl
 rename_i g3
 have g3':preB (l.drop (rowN true l)) [123]=true:=by simpa using g3
 rw [pre_get l _ 123 (by decide),decide_eq_true_eq] at g3'
 obtain ⟨_,hlt⟩:=head_drop l _ 123 g3' (by decide)
 split at h
 ·rename_i e he
  obtain ⟨z',k'⟩:=e
  cases h
  exact labs_far 17 l _ [] z k (by omega) he
 ·rename_i L0 k0 hl0
  obtain ⟨M,_,_,_,_,_,m6⟩:=labs_read 17 l _ [] L0 k0 (by omega) (by simp) hl0
  split at h
  ·cases h
  ·cases h;exact m6
end Go.Proofs.YtlgkfeeclgcgbaaGreatDoor.La
/- THE ORDER OF SERIES. Own work of the verifier. -/
namespace Go.Proofs.YtlgkfeeclgcgbaaGreatDoor.La
def T3 (x y z:Int):Prop:=x≤0→y≤0→z≤0∧(z=0 ↔ x=0∧y=0)
def lex (x u:Int):Int:=if x≠0 then x else u
theorem T3.lex {x y z u v t:Int} (h1:T3 x y z) (h2:T3 u v t):T3 (lex x u) (lex y v) (lex z t):=by
 intro a b
 have lz:∀ p q:Int,p=0→Go.Proofs.YtlgkfeeclgcgbaaGreatDoor.La.lex p q=q:=fun p q h=>by unfold Go.Proofs.YtlgkfeeclgcgbaaGreatDoor.La.lex;rw [if_neg (fun k=>k h)]
 have ln:∀ p q:Int,p≠0→Go.Proofs.YtlgkfeeclgcgbaaGreatDoor.La.lex p q=p:=fun p q h=>by unfold Go.Proofs.YtlgkfeeclgcgbaaGreatDoor.La.lex;rw [if_pos h]
 have le:∀ p q:Int,Go.Proofs.YtlgkfeeclgcgbaaGreatDoor.La.lex p q≤0→p≤0:=fun p q h=>by
  by_cases hp:p=0
  ·omega
  ·rw [ln p q hp] at h;exact h
 have e0:∀ p q:Int,Go.Proofs.YtlgkfeeclgcgbaaGreatDoor.La.lex p q=0→p=0:=fun p q h=>by
  by_cases hp:p=0
  ·exact hp
  ·rw [ln p q hp] at h;exact h
 obtain ⟨z0,zi⟩:=h1 (le _ _ a) (le _ _ b)
 by_cases hz:z=0
 ·obtain ⟨hx,hy⟩:=zi.1 hz
  rw [lz _ _ hx] at a ⊢
  rw [lz _ _ hy] at b ⊢
  rw [lz _ _ hz]
  exact h2 a b
 ·rw [ln _ _ hz]
  exact ⟨z0,fun h=>absurd h hz,fun h=>zi.2 ⟨e0 _ _ h.1,e0 _ _ h.2⟩⟩
theorem T3.ordE (a b c:List UInt8):T3 (ordE a b) (ordE b c) (ordE a c):=by
 have key:∀ p q:List UInt8,Go.Proofs.YtlgkfeeclgcgbaaGreatDoor.La.ordE p q≤0 ↔ p≤q:=fun p q=>by
  unfold Go.Proofs.YtlgkfeeclgcgbaaGreatDoor.La.ordE bltB
  show _ ↔ ¬ q < p
  by_cases h1:p < q
  ·have h2:¬ q < p:=fun h=>List.lt_irrefl _ (List.lt_trans h1 h)
   simp [h1,h2]
  ·by_cases h2:q < p
   ·simp [h1,h2]
   ·simp [h1,h2]
 have zero:∀ p q:List UInt8,Go.Proofs.YtlgkfeeclgcgbaaGreatDoor.La.ordE p q=0 ↔ p=q:=fun p q=>by
  constructor
  ·intro h
   have h1:=(key p q).1 (by omega)
   have h2:q≤p:=fun hlt=>by
    unfold Go.Proofs.YtlgkfeeclgcgbaaGreatDoor.La.ordE bltB at h
    rw [if_pos (decide_eq_true hlt)] at h
    exact absurd h (by decide)
   exact List.le_antisymm h1 h2
  ·rintro rfl
   unfold Go.Proofs.YtlgkfeeclgcgbaaGreatDoor.La.ordE bltB
   simp [List.lt_irrefl]
 intro h1 h2
 have k1:=(key a b).1 h1
 have k2:=(key b c).1 h2
 refine ⟨(key a c).2 (List.le_trans k1 k2),?_⟩
 rw [zero,zero,zero]
 constructor
 ·intro e
  subst e
  have:a=b:=List.le_antisymm k1 k2
  exact ⟨this,this.symm⟩
 ·rintro ⟨e1,e2⟩
  exact e1.trans e2
theorem ordL_lex (a b:Lb) (A B:List Lb):ordL (a::A) (b::B)=lex (ordE a.1 b.1) (lex (ordE a.2 b.2) (ordL A B)):=by
 rw [ordL]
 rfl
theorem T3.ordL:∀ A B C:List Lb,T3 (ordL A B) (ordL B C) (ordL A C)
 | [],[],[]=>by unfold T3;simp [Go.Proofs.YtlgkfeeclgcgbaaGreatDoor.La.ordL]
 | [],[],_::_=>by unfold T3;simp [Go.Proofs.YtlgkfeeclgcgbaaGreatDoor.La.ordL]
 | [],_::_,[]=>by unfold T3;simp [Go.Proofs.YtlgkfeeclgcgbaaGreatDoor.La.ordL]
 | [],_::_,_::_=>by unfold T3;simp [Go.Proofs.YtlgkfeeclgcgbaaGreatDoor.La.ordL]
 | _::_,[],_=>by unfold T3;simp [Go.Proofs.YtlgkfeeclgcgbaaGreatDoor.La.ordL]
 | a::A,b::B,[]=>by
  unfold T3
  intro _ h
  simp [Go.Proofs.YtlgkfeeclgcgbaaGreatDoor.La.ordL] at h
 | a::A,b::B,c::C=>by
  rw [ordL_lex,ordL_lex,ordL_lex]
  exact (T3.ordE a.1 b.1 c.1).lex ((T3.ordE a.2 b.2 c.2).lex (T3.ordL A B C))
theorem T3.ordD (d e f:Ds):T3 (ordD d e) (ordD e f) (ordD d f):=(T3.ordE d.name e.name f.name).lex (T3.ordL d.labels e.labels f.labels)
theorem ordE_zero (p q:List UInt8):ordE p q=0 ↔ p=q:=by
 unfold ordE bltB
 by_cases h1:p < q
 ·simp [h1]
  intro e
  subst e
  exact List.lt_irrefl _ h1
 ·by_cases h2:q < p
  ·simp [h1,h2]
   intro e
   subst e
   exact List.lt_irrefl _ h2
  ·simp [h1,h2]
   exact List.le_antisymm h2 h1
theorem ordL_zero:∀ A B:List Lb,ordL A B=0 ↔ A=B
 | [],[]=>by simp [ordL]
 | [],_::_=>by simp [ordL]
 | _::_,[]=>by simp [ordL]
 | a::A,b::B=>by
  rw [ordL_lex,List.cons.injEq,← ordL_zero A B]
  unfold lex
  have h1:=ordE_zero a.1 b.1
  have h2:=ordE_zero a.2 b.2
  have h3:a=b ↔ a.1=b.1∧a.2=b.2:=Prod.ext_iff
  rw [h3,← h1,← h2]
  by_cases e1:ordE a.1 b.1=0
  ·by_cases e2:ordE a.2 b.2=0
   ·simp [e1,e2]
   ·simp [e1,e2]
  ·simp [e1]
theorem ordD_zero (d e:Ds):ordD d e=0 ↔ d.name=e.name∧d.labels=e.labels:=by
 unfold ordD
 rw [← ordE_zero,← ordL_zero]
 by_cases e1:ordE d.name e.name=0
 ·simp [e1]
 ·simp [e1]
end Go.Proofs.YtlgkfeeclgcgbaaGreatDoor.La
