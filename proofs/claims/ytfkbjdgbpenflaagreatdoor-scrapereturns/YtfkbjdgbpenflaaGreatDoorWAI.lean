/- THE CODE'S series AND Parse. Own work of the verifier. -/
import Derived.Test.YtfkbjdgbpenflaaGreatDoorWAH
set_option maxRecDepth 100000
set_option maxHeartbeats 8000000
namespace Go.Proofs.YtfkbjdgbpenflaaGreatDoor.La
open Go.RowKit
def parR (l:List UInt8):Except (Int × Nat) (List UInt8 × List Lb) :=
 if nameB (l.take (rowN true l))=false then .error (9,0)
 else if rowN true l=l.length then .ok (l.take (rowN true l),[])
 else if preB (l.drop (rowN true l)) [123]=false then .error (5,rowN true l)
 else match labsF 17 l (rowN true l+1) [] with
  | .error e=>.error e
  | .ok (L,k)=>if k=l.length then .ok (l.take (rowN true l),L) else .error (5,k)
def TellsS (l:List UInt8) (B:Nat) (e:Ending) (j:Nat) (W:World):Prop :=
 (∃ z x v,parR l=.error (z,j)∧z≠0∧e=.returned (.tuple #[.string x,v,.int .i64 z])) ∨
 (∃ (n:List UInt8) (L:List Lb) (v:Value),parR l=.ok (n,L)∧e=.returned (.tuple #[.string ⟨n.toArray⟩,v,.int .i64 0])∧OwnL B v L W)
theorem OwnL.below {B:Nat} {v:Value} {L:List Lb} {W W1:World} (h:OwnL B v L W) (hb:Below W.heap.size W W1):OwnL B v L W1:=by
 refine World.ownsRow.kept (row:=none) h ⟨hb.os,hb.tape,hb.output,hb.size,fun k hk _=>hb.block k hk⟩ ?_
 cases hv:v.ownBlock <;> simp
theorem OwnL.mono {B B':Nat} {v:Value} {L:List Lb} {W:World} (h:OwnL B v L W) (hB:B'≤B):OwnL B' v L W:=by
 refine ⟨h.1,?_⟩
 rcases h.2 with h1 | ⟨g,cap,cur,hv,hg,r⟩
 ·exact Or.inl h1
 ·exact Or.inr ⟨g,cap,cur,hv,by omega,r⟩
theorem OwnL.nil (B:Nat) (W:World):OwnL B (.slice none 0 0) [] W:=⟨rfl,Or.inl ⟨rfl,rfl⟩⟩
theorem cser_any (g:Nat) (l:List UInt8) (hl:l.length≤140737488355328) (w:World) (hr:RdAt w g l 0) :
  Calls Tryz.prog 214 #[.pointer (some ⟨g,0,none⟩)] w fun r w'=>∃ j,TellsS l w.heap.size r j w'∧Ex g w w'∧RdAt w' g l j:=by
 obtain ⟨c0,c1,c2⟩:=hr.cells
 obtain ⟨n,hn⟩:∃ n,n=rowN true l:=⟨_,rfl⟩
 have hnl:=rowN_le true l
 rw [← hn] at hnl
 obtain ⟨nm,hnm⟩:∃ nm,nm=l.take n:=⟨_,rfl⟩
 have hnml:nm.length=n:=by rw [hnm,List.length_take];omega
 have hnml':(nm.length:Int)=(n:Int):=by omega
 have hP:parR l=if nameB nm=false then .error (9,0)
  else if n=l.length then .ok (nm,[])
  else if preB (l.drop n) [123]=false then .error (5,n)
  else match labsF 17 l (n+1) [] with
   | .error e=>.error e
   | .ok (L,k)=>if k=l.length then .ok (nm,L) else .error (5,k):=by
  unfold parR
  rw [← hn,← hnm]
 have HW:Hid (∀ W,Calls Tryz.prog 102 #[.string ⟨l.toArray⟩,fv true] W fun r w'=>r=.returned (.string ⟨nm.toArray⟩)∧w'=W):=fun W=>by rw [hnm,hn];exact crow_any l true (by omega) W
 have HN:Hid (∀ W,Calls Tryz.prog 37 #[.string ⟨nm.toArray⟩] W fun r w'=>r=.returned (.bool (nameB nm))∧w'=W):=fun W=>cname_any nm (by omega) W
 have HCl:Hid (∀ W,Calls Tryz.prog 95 #[.string ⟨nm.toArray⟩] W fun r w'=>r=.returned (.string ⟨nm.toArray⟩)∧Below W.heap.size W w'):=fun W=>clone_any nm (by omega) W
 have HR:Hid (∀ (j:Nat),j≤l.length→∀ W,RdAt W g l j→Calls Tryz.prog 241 #[.pointer (some ⟨g,0,none⟩)] W fun r w'=>r=.returned (.string ⟨(l.drop j).toArray⟩)∧∃ m,w'=W.drewN m):=fun j hj W h=>rest_any g j l hj W h
 have HT:Hid (∀ W,RdAt W g l n→Calls Tryz.prog 242 #[.pointer (some ⟨g,0,none⟩),.string ⟨#[123]⟩] W fun r w'=>r=.returned (.bool (preB (l.drop n) [123]))∧Ex g W w'∧RdAt w' g l (if preB (l.drop n) [123] then n+1 else n)):=fun W h=>take_any g n l [123] hnl (by omega) W h
 have HL:Hid (∀ W,n+1≤l.length→RdAt W g l (n+1)→Calls Tryz.prog 243 #[.pointer (some ⟨g,0,none⟩)] W fun r w'=>∃ j,TellsLs l (n+1) W.heap.size r j w'∧Ex g W w'∧RdAt w' g l j):=fun W h0 h=>clabs_any g (n+1) l h0 hl W h
 have HQ:preB (l.drop n) [123]=true→n+1≤l.length:=fun h=>by rw [pre_one,decide_eq_true_eq] at h;omega
 have HRd:Hid (RdAt w g l 0):=hr
 unfold fv at HW
 have hnb:(n:Int)≤140737488355328:=by omega
 clear hr hn hnm hnml
 generalize nameB nm=nb at *
 cases nb
 ·rw [if_pos rfl] at hP
  have HP:Hid _:=hP
  clear hP HCl HR HT HL HQ
  as_aux_lemma =>
   go_enter Tryz.func214,Tryz.ntmps214
   go_wp2_with (first | (go_at_call 102;refine (HW.out _).mono ?_;rintro e1 w1 ⟨rfl,rfl⟩) | (go_at_call 37;refine (HN.out _).mono ?_;rintro e1 w1 ⟨rfl,rfl⟩))
   go_ret3
   exact ⟨0,Or.inl ⟨9,_,_,HP.out,by decide,rfl⟩,Ex.refl _ _,HRd.out⟩
 rw [if_neg (by decide)] at hP
 have HPP:Hid _:=hP
 have HX0:Hid (Ex g w (w.setCell ⟨g,1,none⟩ (.int .i64 (n:Int)))):=(Ex.refl g w).set _ _
 have HR0:Hid (RdAt (w.setCell ⟨g,1,none⟩ (.int .i64 (n:Int))) g l n):=RdAt.set HRd.out n
 clear hP HRd
 go_enter Tryz.func214,Tryz.ntmps214
 go_wp2_with (first | (go_at_call 102;refine (HW.out _).mono ?_;rintro e1 w1 ⟨rfl,hw1⟩;subst w1) | (go_at_call 37;refine (HN.out _).mono ?_;rintro e1 w1 ⟨rfl,hw1⟩;subst w1))
 refine (HCl.out _).mono ?_
 rintro e w1 ⟨rfl,hb⟩
 have HX1:Hid (Ex g w w1):=HX0.out.trans (Ex.of hb)
 have hr1:RdAt w1 g l n:=RdAt.below HR0.out hb
 have HC1:HidC _ _ _ _ _:=HR.out n hnl w1 hr1
 have HR1:Hid (RdAt w1 g l n):=hr1
 clear HW HN HCl HX0 HR0 hb hr1 c0 c1 c2
 go_wp2_with fail
 refine (HC1.out).mono ?_
 rintro e w2 ⟨rfl,m,rfl⟩
 have HX2:Hid (Ex g w (w1.drewN m)):=HX1.out.trans (Ex.of (below_drewN w1 m))
 have HR2:Hid (RdAt (w1.drewN m) g l n):=RdAt.drewN HR1.out m
 clear HC1 HX1 HR1
 generalize w1.drewN m=w2 at *
 by_cases g1:n=l.length
 ·have hd:(l.drop n == [])=true:=by rw [List.drop_eq_nil_of_le (by omega)];rfl
  have HF:Hid (parR l=.ok (nm,[])):=by show _=_;rw [HPP.out,if_pos g1]
  generalize l.drop n=dr at *
  clear HPP HR HT HL HQ g1
  as_aux_lemma =>
   go_wp2_with fail
   go_ret3
   exact ⟨n,Or.inr ⟨nm,[],_,HF.out,rfl,OwnL.nil _ _⟩,HX2.out,HR2.out⟩
 have hd:(l.drop n == [])=false:=by
  rw [beq_eq_false_iff_ne]
  intro e
  have:=congrArg List.length e
  rw [List.length_drop] at this
  exact g1 (by simp at this;omega)
 have HP2:Hid _:=HPP.out
 have hP:=HPP.out
 rw [if_neg g1] at hP
 have HT1:HidC _ _ _ _ _:=HT.out w2 HR2.out
 have HP3:Hid _:=hP
 clear HPP HP2 hP HT HR2 g1
 generalize hbq:preB (l.drop n) [123]=bq at *
 obtain ⟨dr,hdr⟩:∃ dr,dr=l.drop n:=⟨_,rfl⟩
 rw [← hdr] at hd ⊢
 clear hdr hbq
 cases bq
 ·have HF:Hid (parR l=.error (5,n)):=by have:=HP3.out;rw [if_pos rfl] at this;exact this
  clear HP3 HL HQ HR
  as_aux_lemma =>
   go_wp2_with fail
   refine (HT1.out).mono ?_
   rintro e w3 ⟨rfl,hx,hrd⟩
   have HX3:Hid (Ex g w w3):=HX2.out.trans hx
   have HR3:Hid (RdAt w3 g l n):=hrd
   clear HT1 HX2 hx hrd
   go_wp2_with fail
   go_ret3
   exact ⟨n,Or.inl ⟨5,_,_,HF.out,by decide,rfl⟩,HX3.out,HR3.out⟩
 have hq:=HQ rfl
 have hP4:=HP3.out
 rw [if_neg (by decide)] at hP4
 have HP4:Hid _:=hP4
 clear HP3 HQ hP4
 go_wp2_with fail
 refine (HT1.out).mono ?_
 rintro e w3 ⟨rfl,hx,hrd⟩
 have HX3:Hid (Ex g w w3):=HX2.out.trans hx
 have HL1:HidC _ _ _ _ _:=HL.out w3 hq hrd
 clear HT1 HX2 hx hrd HL
 go_wp2_with fail
 refine (HL1.out).mono ?_
 rintro e w4 ⟨k,hT,hx,hrd⟩
 have HX4:Hid (Ex g w w4):=HX3.out.trans hx
 have HR4:Hid (RdAt w4 g l k):=hrd
 have hB:w.heap.size≤w3.heap.size:=HX3.out.size
 clear HL1 HX3 hx hrd
 rcases hT with ⟨z,ho,hz,rfl⟩ | ⟨L,v,ho,hk,rfl,hown⟩
 ·have HF:Hid (parR l=.error (z,k)):=by show _=_;rw [HP4.out,ho]
  have hz':(z == 0)=false:=by simpa using hz
  have HZ:Hid _:=hz
  clear HP4 ho hz HR
  as_aux_lemma =>
   go_wp2_with fail
   go_ret3
   exact ⟨k,Or.inl ⟨z,_,_,HF.out,HZ.out,rfl⟩,HX4.out,HR4.out⟩
 ·have HC4:HidC _ _ _ _ _:=HR.out k hk w4 HR4.out
  have HO4:Hid _:=hown.mono hB
  have hP:=HP4.out
  rw [ho] at hP
  simp only at hP
  clear HR ho HP4 hown
  by_cases gk:k=l.length
  ·have hd2:(l.drop k).isEmpty=true:=by rw [List.drop_eq_nil_of_le (by omega)];rfl
   rw [if_pos gk] at hP
   have HF:Hid _:=hP
   generalize l.drop k=dk at *
   clear hP gk
   as_aux_lemma =>
    go_wp2_with fail
    refine (HC4.out).mono ?_
    rintro e w5 ⟨rfl,m2,rfl⟩
    have HX5:Hid _:=HX4.out.trans (Ex.of (below_drewN w4 m2))
    have HR5:Hid _:=RdAt.drewN HR4.out m2
    have HO5:Hid _:=OwnL.below HO4.out (below_drewN w4 m2)
    clear HC4 HX4 HR4 HO4
    go_wp2_with fail
    go_ret3
    exact ⟨k,Or.inr ⟨nm,L,v,HF.out,rfl,HO5.out⟩,HX5.out,HR5.out⟩
  ·have hd2:(l.drop k).isEmpty=false:=by
    rw [List.isEmpty_eq_false_iff]
    intro e
    have:=congrArg List.length e
    rw [List.length_drop] at this
    exact gk (by simp at this;omega)
   rw [if_neg gk] at hP
   have HF:Hid _:=hP
   generalize l.drop k=dk at *
   clear hP gk HO4
   as_aux_lemma =>
    go_wp2_with fail
    refine (HC4.out).mono ?_
    rintro e w5 ⟨rfl,m2,rfl⟩
    have HX5:Hid _:=HX4.out.trans (Ex.of (below_drewN w4 m2))
    have HR5:Hid _:=RdAt.drewN HR4.out m2
    clear HC4 HX4 HR4
    go_wp2_with fail
    go_ret3
    exact ⟨k,Or.inl ⟨5,_,_,HF.out,by decide,rfl⟩,HX5.out,HR5.out⟩
theorem results_tmp4 {fn:Func} {t u v x:Tmp} (h:fn.results=#[.tmp t,.tmp u,.tmp v,.tmp x]) (tmps:Array Value) (P:Program) (w:World) :
  (results fn tmps).run P w=.ok (.tuple #[tmps.getD t undef,tmps.getD u undef,tmps.getD v undef,tmps.getD x undef]) w:=by
 simp [results,h]
def TellsC (l:List UInt8) (B:Nat) (e:Ending) (W:World):Prop :=
 (∃ (z:Int) (k:Nat),parR l=.error (z,k)∧z≠0∧e=.returned (.tuple #[.string ⟨#[]⟩,.slice none 0 0,.int .i64 z,.int .i64 (k:Int)])) ∨
 (∃ (n:List UInt8) (L:List Lb) (v:Value),parR l=.ok (n,L)∧e=.returned (.tuple #[.string ⟨n.toArray⟩,v,.int .i64 0,.int .i64 0])∧OwnL B v L W)
theorem cparse_any (l:List UInt8) (hl:l.length≤140737488355328) (w:World) :
  Calls Tryz.prog 188 #[.string ⟨l.toArray⟩] w fun r w'=>TellsC l w.heap.size r w'∧Below w.heap.size w w':=by
 have HRd:Hid (RdAt (w.alloc (.cells #[.string ⟨l.toArray⟩,.int .i64 0] 235)) w.heap.size l 0):=by show (w.heap.push _)[w.heap.size]? =_;simp
 have HS:HidC _ _ _ _ _:=cser_any w.heap.size l hl _ HRd.out
 clear HRd
 go_enter Tryz.func188,Tryz.ntmps188
 go_wp2_with fail
 refine (HS.out).mono ?_
 rintro e w1 ⟨j,hT,hx,hrd⟩
 have hbl:Below w.heap.size w w1:=(bel1 w _).trans (hx.below (Nat.le_refl _) (by simp))
 obtain ⟨c0,c1,c2⟩:=hrd.cells
 clear HS hx hrd
 rcases hT with ⟨z,x,v,ho,hz,rfl⟩ | ⟨n,L,v,ho,rfl,hown⟩
 ·have hz':(z != 0)=true:=by simpa using hz
  have HO:Hid _:=ho
  have HZ:Hid _:=hz
  clear ho hz
  as_aux_lemma =>
   go_wp2_with fail
   go_quiet (fail)
   go_wp2_with fail
   (try simp only [Exit.inBlock,Exit.then]);refine bodyPost_ret (results_tmp4 rfl _ _ _) rfl ?_
   exact ⟨Or.inl ⟨z,j,HO.out,HZ.out,rfl⟩,bel_drewN hbl _⟩
 ·have HO:Hid _:=ho
  have HW:Hid (OwnL w.heap.size v L w1):=hown.mono (by simp)
  clear ho hown
  as_aux_lemma =>
   go_wp2_with fail
   (try simp only [Exit.inBlock,Exit.then]);refine bodyPost_ret (results_tmp4 rfl _ _ _) rfl ?_
   exact ⟨Or.inr ⟨n,L,v,HO.out,rfl,HW.out⟩,hbl⟩
end Go.Proofs.YtfkbjdgbpenflaaGreatDoor.La
namespace Go.Proofs.YtfkbjdgbpenflaaGreatDoor.La
theorem esc_un (h:List UInt8):unL (escL false h)=some h:=by
 induction h with
 | nil=>rfl
 | cons b r ih =>
  rw [escL]
  unfold esc1
  by_cases h1:b.toNat=92
  ·have hb:b=92:=UInt8.toNat_inj.1 h1
   subst hb
   rw [if_pos (Or.inl h1)]
   show unL (92::92::escL false r)=_
   rw [unL.eq_def]
   simp [ih]
  ·rw [if_neg (by simp [h1])]
   by_cases h2:b.toNat=10
   ·have hb:b=10:=UInt8.toNat_inj.1 h2
    subst hb
    rw [if_pos h2]
    show unL (92::110::escL false r)=_
    rw [unL.eq_def]
    simp [ih]
   ·rw [if_neg h2]
    show unL (b::escL false r)=_
    rw [unL.eq_def]
    simp [h1,h2,ih]
theorem esc_val (t rest:List UInt8):∀ p,valR (escL true t++34::rest) p=.ok (t,p+(escL true t).length+1):=by
 induction t with
 | nil=>intro p;rw [escL,List.nil_append,valR.eq_def];simp
 | cons b r ih =>
  intro p
  rw [escL]
  unfold esc1
  by_cases h1:b.toNat=92∨true=true∧b.toNat=34
  ·rw [if_pos h1]
   show valR (92::b::(escL true r++34::rest)) p=_
   have h1':b.toNat=92∨b.toNat=34:=by simpa using h1
   rw [valR.eq_def]
   simp only
   rw [if_neg (by decide),if_neg (by decide),if_pos (by decide),if_pos h1',ih (p+2)]
   simp only [Except.map,List.length_append,List.length_cons,List.length_nil]
   congr 2
   omega
  ·rw [if_neg h1]
   have h1':¬ (b.toNat=92∨b.toNat=34):=by simpa using h1
   by_cases h2:b.toNat=10
   ·have hb:b=10:=UInt8.toNat_inj.1 h2
    subst hb
    rw [if_pos h2]
    show valR (92::110::(escL true r++34::rest)) p=_
    rw [valR.eq_def]
    simp only
    rw [if_neg (by decide),if_neg (by decide),if_pos (by decide),if_neg (by decide),if_pos (by decide),ih (p+2)]
    simp only [Except.map,List.length_append,List.length_cons,List.length_nil]
    congr 2
    omega
   ·rw [if_neg h2]
    show valR (b::(escL true r++34::rest)) p=_
    rw [valR.eq_def]
    simp only
    rw [if_neg (fun h=>h1' (Or.inr h)),if_neg h2,if_neg (fun h=>h1' (Or.inl h)),ih (p+1)]
    simp only [Except.map,List.length_append,List.length_cons,List.length_nil]
    congr 2
    omega
theorem rowN_app (c:Bool) (a:List UInt8) (b:UInt8) (X:List UInt8) (h:rowN c a=a.length) (hb:gd c b.toNat=false):rowN c (a++b::X)=a.length:=by
 induction a with
 | nil=>rw [List.nil_append,rowN,hb];rfl
 | cons x r ih =>
  rw [rowN] at h
  by_cases hx:gd c x.toNat=true
  ·rw [if_pos hx,List.length_cons] at h
   rw [List.cons_append,rowN,if_pos hx,ih (by omega),List.length_cons]
  ·rw [if_neg hx,List.length_cons] at h
   omega
theorem getD_drop (l:List UInt8) (p n:Nat):l.getD (p+n) 0=(l.drop p).getD n 0:=by
 rw [List.getD_eq_getElem?_getD,List.getD_eq_getElem?_getD,List.getElem?_drop]
theorem plain_row {c:Bool} {a:List UInt8} (h:plainB c a=true):rowN c a=a.length∧a.length≤64:=by
 unfold plainB at h
 simp only [Bool.and_eq_true,decide_eq_true_eq] at h
 exact ⟨h.1.2,h.1.1.2⟩
theorem lname_plain {a:List UInt8} (h:lnameB a=true):plainB false a=true:=by
 unfold lnameB at h
 simp only [Bool.and_eq_true] at h
 exact h.1.1.1
theorem name_plain {a:List UInt8} (h:nameB a=true):plainB true a=true:=by
 unfold nameB at h
 simp only [Bool.and_eq_true] at h
 exact h.1.1.1
theorem drop_more (l X Y:List UInt8) (p:Nat) (h:l.drop p=X++Y):l.drop (p+X.length)=Y:=by
 rw [← List.drop_drop,h]
 simp
theorem ple_iff (L:List Lb) (n:List UInt8):plE L n=0 ↔ ¬ (L.length≠0∧bhE (L.getD (L.length - 1) ([],[])).1 n≠0):=by
 unfold plE
 by_cases h0:L.length=0
 ·simp [h0]
 ·simp [h0]
theorem one_print (l:List UInt8) (p:Nat) (L:List Lb) (a:Lb) (rest:List UInt8) (h:l.drop p=lbT a++rest) (h1:lnameB a.1=true) (h2:txE a.2=0) (h3:plE L a.1=0) (h4:L.length≠16):oneR l p L=.ok (a,p+(lbT a).length):=by
 have hl:lbT a++rest=a.1++(61::34::(escL true a.2++34::rest)):=by unfold lbT;simp
 rw [hl] at h
 have hr:rowN false (l.drop p)=a.1.length:=by rw [h];exact rowN_app false a.1 61 _ (plain_row (lname_plain h1)).1 (by decide +kernel)
 have hn:nmAt l p=a.1:=by unfold nmAt;rw [hr,h];simp
 have hd:=drop_more l a.1 _ p h
 have e1:l.getD (p+a.1.length) 0=61:=by
  have:=getD_drop l (p+a.1.length) 0
  rw [Nat.add_zero,hd] at this
  exact this
 have e2:l.getD (p+a.1.length+1) 0=34:=by
  have:=getD_drop l (p+a.1.length) 1
  rw [hd] at this
  exact this
 have e3:l.drop (p+a.1.length+2)=escL true a.2++34::rest:=by
  rw [← List.drop_drop,hd]
  rfl
 unfold oneR
 rw [hr,hn,if_neg h4,if_neg (by rw [h1];decide),if_neg ((ple_iff L a.1).1 h3),e1,if_neg (by decide),e2,if_neg (by decide),e3,esc_val]
 simp only
 rw [if_neg (fun k=>k h2)]
 have hlen:(lbT a).length=a.1.length+2+(escL true a.2).length+1:=by unfold lbT;simp;omega
 rw [hlen]
 congr 2
 omega
def prJ:List Lb→List UInt8
 | []=>[]
 | a::r=>lbT a++prB false r
theorem prB_true (M:List Lb) (h:M≠[]):prB true M=123::prJ M:=by
 cases M with
 | nil=>exact absurd rfl h
 | cons a r=>rfl
theorem prB_false (M:List Lb) (h:M≠[]):prB false M=44::prJ M:=by
 cases M with
 | nil=>exact absurd rfl h
 | cons a r=>rfl
def lastN (L:List Lb):Option (List UInt8):=if L.length=0 then none else some (L.getD (L.length - 1) ([],[])).1
theorem lastN_app (L:List Lb) (a:Lb):lastN (L++[a])=some a.1:=by
 unfold lastN
 rw [List.length_append,if_neg (by simp)]
 simp [List.getD_eq_getElem?_getD]
theorem chk_cons (L:List Lb) (a:Lb) (r:List Lb):chkL (a::r) (lastN L)=0 ↔ lnameB a.1=true∧txE a.2=0∧plE L a.1=0∧chkL r (some a.1)=0:=by
 rw [chkL.eq_def]
 simp only
 unfold plE lastN
 by_cases h1:lnameB a.1=true
 ·rw [if_neg (by rw [h1];decide)]
  by_cases h2:txE a.2=0
  ·rw [if_neg (fun k=>k h2)]
   by_cases h0:L.length=0
   ·simp [h0,h1,h2]
   ·simp only [h0,if_false]
    by_cases h3:bhE (L.getD (L.length - 1) ([],[])).1 a.1=0
    ·rw [if_neg (fun k=>k h3)]
     simp only [h1,h2,h3,true_and]
    ·rw [if_pos h3]
     exact ⟨fun k=>absurd k h3,fun k=>absurd k.2.2.1 h3⟩
  ·rw [if_pos h2]
   simp [h2]
 ·rw [if_pos (by simpa using h1)]
  simp [h1]
theorem labs_print:∀ (M:List Lb) (f:Nat) (l:List UInt8) (p:Nat) (L:List Lb) (rest:List UInt8),M≠[]→chkL M (lastN L)=0→L.length+M.length≤16→M.length≤f→l.drop p=prJ M++125::rest→labsF f l p L=.ok (L++M,p+(prJ M).length+1)
 | [],_,_,_,_,_,h,_,_,_,_=>absurd rfl h
 | a::r,0,_,_,_,_,_,_,_,hf,_=>by simp at hf
 | a::r,f+1,l,p,L,rest,_,hc,hlen,hf,hd=>by
  obtain ⟨h1,h2,h3,h4⟩:=(chk_cons L a r).1 hc
  rw [List.length_cons] at hlen hf
  have ho:=one_print l p L a (prB false r++125::rest) (by rw [hd];simp [prJ]) h1 h2 h3 (by omega)
  have hk:l.drop (p+(lbT a).length)=prB false r++125::rest:=drop_more l (lbT a) _ p (by rw [hd];simp [prJ])
  rw [labsF,ho]
  simp only
  cases r with
  | nil =>
   rw [prB,List.nil_append] at hk
   rw [hk,show preB (125::rest) [125]=true from by simp [preB]]
   simp [prJ,prB]
  | cons b r' =>
   rw [prB_false _ (by simp),List.cons_append] at hk
   rw [hk,show preB (44::(prJ (b::r')++125::rest)) [125]=false from by simp [preB],show preB (44::(prJ (b::r')++125::rest)) [44]=true from by simp [preB]]
   simp only [Bool.false_eq_true,if_false,if_true]
   have hk2:l.drop (p+(lbT a).length+1)=prJ (b::r')++125::rest:=drop_more l [44] _ (p+(lbT a).length) (by rw [hk];rfl)
   have ih:=labs_print (b::r') f l (p+(lbT a).length+1) (L++[a]) rest (by simp) (by rw [lastN_app];exact h4) (by rw [List.length_append];simp at hlen ⊢;omega) (by omega) hk2
   have hj:(prJ (a::b::r')).length=(lbT a).length+1+(prJ (b::r')).length:=by
    show (lbT a++prB false (b::r')).length=_
    rw [prB_false _ (by simp),List.length_append,List.length_cons]
    omega
   have e:p+(lbT a).length+1+(prJ (b::r')).length+1=p+((lbT a).length+1+(prJ (b::r')).length)+1:=by omega
   rw [ih,hj,List.append_assoc,e]
   rfl
theorem par_print (n:List UInt8) (L:List Lb) (h1:nameB n=true) (h2:L.length≤16) (h3:chkL L none=0):parR (printT n L)=.ok (n,L):=by
 have hr0:=(plain_row (name_plain h1)).1
 by_cases h0:L=[]
 ·subst h0
  have:printT n []=n:=by unfold printT;simp [prB]
  rw [this]
  unfold parR
  rw [hr0,List.take_length,if_neg (by rw [h1];decide),if_pos rfl]
 ·have hp:printT n L=n++123::(prJ L++[125]):=by
   unfold printT
   rw [prB_true L h0,if_neg (by simpa using h0)]
   simp
  have hr:rowN true (printT n L)=n.length:=by rw [hp];exact rowN_app true n 123 _ hr0 (by decide +kernel)
  have hd:(printT n L).drop n.length=123::(prJ L++[125]):=by rw [hp];simp
  have hd1:(printT n L).drop (n.length+1)=prJ L++125::[]:=drop_more _ [123] _ n.length (by rw [hd];rfl)
  have hlen:(printT n L).length=n.length+1+(prJ L).length+1:=by rw [hp];simp;omega
  unfold parR
  rw [hr,show (printT n L).take n.length=n from by rw [hp];simp,if_neg (by rw [h1];decide),if_neg (by omega),hd,if_neg (by simp [preB]),labs_print L 17 _ _ [] [] h0 (by unfold lastN;simpa using h3) (by simpa using h2) (by omega) hd1]
  simp only [List.nil_append]
  rw [if_pos (by omega)]
end Go.Proofs.YtfkbjdgbpenflaaGreatDoor.La
