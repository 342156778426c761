/- readFloat AT DECIMAL TEXTS, for whatever the reader of its digits keeps. Own work of the verifier. -/
import Derived.Test.YtfkbjdgbpenflaaGreatDoorWAU
import Derived.WalkMore
import Derived.Deep.DeepCutAuto
import Derived.IntWalk
import Derived.Deep.CutBlock
set_option maxRecDepth 100000
set_option maxHeartbeats 8000000
namespace Go.Proofs.YtfkbjdgbpenflaaGreatDoor.Rl
open Go.RowKit Go.Sort
theorem low_list:∀ c:Nat,c < 102→c < 88∨c=101→(bits .or .u8 (c:Int) 32 == 120)=false:=by decide +kernel
theorem low_ne (c:Nat) (h:c < 88∨c=101):(bits .or .u8 (c:Int) 32 == 120)=false:=low_list c (by omega) h
theorem low_e:bits .or .u8 101 32=101:=by decide +kernel
theorem lower_ne (c:Nat) (h:c < 88∨c=101) (W:World):Calls Tryz.prog 223 #[.int .u8 (c:Int)] W fun e w'=>(∃ r:Int,e=.returned (.int .u8 r)∧(r == 120)=false)∧w'=W :=
 (Tryz.internal_strconv_lower (c:Int) W).mono fun _ _ h'=>⟨⟨_,h'.1,low_ne c h⟩,h'.2⟩
theorem lower_e (c:Nat) (hc:c=101) (W:World):Calls Tryz.prog 223 #[.int .u8 (c:Int)] W fun e w'=>e=.returned (.int .u8 101)∧w'=W:=by
 subst hc
 exact (Tryz.internal_strconv_lower 101 W).mono fun e w' h'=>⟨by rw [h'.1,low_e],h'.2⟩
def xOut (M N K:Nat) (P:Int) (a:Bool) (E:Int):Int:=if M=0 then 0 else (if a then P else (N:Int))+E - (K:Int)
theorem read_gen (l:List UInt8) (hl:l.length≤25) (neg:Bool) (i0:Nat) (h0:i0 < l.length)
  (hsg:neg=false∧i0=0∧l[0].toNat≠43∧l[0].toNat≠45∨neg=true∧i0=1∧l[0].toNat=45)
  (D:Nat→Nat→Nat→Nat→Int→Bool→Bool→Prop) (X:Nat→Nat→Prop) (R:Nat→Int→Prop)
  (hhex:∀ (h:i0+1 < l.length),l[i0+1].toNat < 88∨l[i0+1].toNat=101)
  (hD:D i0 0 0 0 0 false false)
  (h1:∀ j M N K P a b,D j M N K P a b→M < 18446744073709551616∧N≤j∧K≤N∧(K < 19→M < 1000000000000000000)∧-25≤P∧P≤25)
  (h2:∀ j (hj:j < l.length) M N K P a b,D j M N K P a b→l[j].toNat=46∨48≤l[j].toNat∧l[j].toNat≤57∨l[j].toNat=101)
  (h3:∀ j (hj:j < l.length) M N K P a b,D j M N K P a b→l[j].toNat=46→a=false∧D (j+1) M N K (N:Int) true b)
  (h4:∀ j (hj:j < l.length) M N K P a b,D j M N K P a b→l[j].toNat=48→N=0→D (j+1) M N K (P - 1) a true)
  (h5:∀ j (hj:j < l.length) M N K P a b,D j M N K P a b→48≤l[j].toNat→l[j].toNat≤57→¬ (l[j].toNat=48∧N=0) →
   (K < 19→D (j+1) (M*10+(l[j].toNat - 48)) (N+1) (K+1) P a true)∧(¬ K < 19→l[j].toNat=48∧D (j+1) M (N+1) K P a true))
  (h6:∀ M N K P a b,D l.length M N K P a b→b=true∧R M (xOut M N K P a 0))
  (h7:∀ j (hj:j < l.length) M N K P a b,D j M N K P a b→l[j].toNat=101→b=true∧∃ h:j+1 < l.length,
   (l[j+1].toNat=45∧(∃ h':j+2 < l.length,X (j+2) 0)∧∀ E,X l.length E→R M (xOut M N K P a (-(E:Int)))) ∨
   (48≤l[j+1].toNat∧l[j+1].toNat≤57∧X (j+1) 0∧∀ E,X l.length E→R M (xOut M N K P a (E:Int))))
  (h8:∀ k E,X k E→E < 1000)
  (h9:∀ k (hk:k < l.length) E,X k E→48≤l[k].toNat∧l[k].toNat≤57∧X (k+1) (E*10+(l[k].toNat - 48)))
  (w:World) :
  Calls Tryz.prog 255 #[.string ⟨l.toArray⟩] w fun e w'=>(∃ (M:Nat) (x:Int),e=.returned (.tuple #[.int .u64 (M:Int),.int .i64 x,.bool neg,.bool false,.bool false,.int .i64 (l.length:Int),.bool true])∧R M x)∧w'=w:=by
 have hB:i0 < (ByteArray.mk l.toArray).size:=by show i0 < l.toArray.size;simpa using h0
 have hB0:0 < (ByteArray.mk l.toArray).size:=by omega
 have hbe:((ByteArray.mk l.toArray)[0]'hB0).toNat=l[0].toNat:=rfl
 have hlen:(l.length:Int)≤25:=by omega
 have hnil:¬ l=[]:=fun h=>by subst h;simp at h0
 have H1:Hid _:=h1
 have H2:Hid _:=h2
 have H3:Hid _:=h3
 have H4:Hid _:=h4
 have H5:Hid _:=h5
 have H6:Hid _:=h6
 have H7:Hid _:=h7
 have H8:Hid _:=h8
 have H9:Hid _:=h9
 have HD:Hid _:=hD
 have HX:Hid _:=hhex
 have HLn:Hid _:=@lower_ne
 have HLe:Hid _:=@lower_e
 clear h1 h2 h3 h4 h5 h6 h7 h8 h9 hD hhex
 go_enter Tryz.func255,Tryz.ntmps255
 go_wp2_with fail
 go_step3
 go_upto_block 0 with fail
 go_cut [4,7] from 21 (fun s t W=>s=.bool neg∧t=.int .i64 (i0:Int)∧W=w)
 case first =>
  as_aux_lemma =>
   rcases hsg with ⟨rfl,rfl,hm,hm'⟩ | ⟨rfl,rfl,hm⟩
   ·have t1:((((ByteArray.mk l.toArray)[0]'hB0).toNat:Int) == 43)=false:=by rw [beq_eq_false_iff_ne,hbe];omega
    have t2:((((ByteArray.mk l.toArray)[0]'hB0).toNat:Int) == 45)=false:=by rw [beq_eq_false_iff_ne,hbe];omega
    go_wp2_with fail
    go_meet
    exact ⟨rfl,rfl,rfl⟩
   ·have t1:((((ByteArray.mk l.toArray)[0]'hB0).toNat:Int) == 43)=false:=by rw [beq_eq_false_iff_ne,hbe];omega
    have t2:((((ByteArray.mk l.toArray)[0]'hB0).toNat:Int) == 45)=true:=by rw [beq_iff_eq,hbe];omega
    go_wp2_with fail
    go_meet
    exact ⟨rfl,rfl,rfl⟩
 case rest =>
 obtain ⟨rfl,rfl,rfl⟩:=hcut
 have hi25:(i0:Int)≤1:=by omega
 have hi0:(i0:Int) < (l.length:Int):=by omega
 clear hsg hbe
 go_upto_region 12 with fail
 go_cut [54] from 21 (fun s W=>s=.bool false∧W=wc)
 case first =>
  as_aux_lemma =>
   go_wp2_with (first
    | (go_at_call 223;refine (HLn.out _ (HX.out (by omega)) _).mono ?_;rintro e w' ⟨⟨r,rfl,hr⟩,rfl⟩)
    | fail)
   all_goals (go_meet;exact ⟨rfl,rfl⟩)
 case rest =>
 obtain ⟨rfl,rfl⟩:=hcut
 clear HX HLn
 go_wp2_with fail
 go_step3
 go_wp2_with fail
 go_loopw [2,5,7,9,13,14,15,16,17,18] (fun m tr i us sd sg nd nm dp _ wr=>∃ (j M N K:Nat) (P:Int) (a b:Bool),j≤l.length∧m=.int .u64 (M:Int)∧tr=.bool false∧i=.int .i64 (j:Int)∧us=.bool false∧sd=.bool a∧sg=.bool b∧nd=.int .i64 (N:Int)∧nm=.int .i64 (K:Int)∧dp=.int .i64 P∧Hid (D j M N K P a b)∧wr=wc) (fun _ _ i _ _ _ _ _ _ _ _=>l.length - (intOf i).toNat)
 case atStart=>exact ⟨i0,0,0,0,0,false,false,by omega,rfl,rfl,rfl,rfl,rfl,rfl,rfl,rfl,rfl,HD,rfl⟩
 case round =>
  obtain ⟨j,M,N,K,P,a,b,hj,rfl,rfl,rfl,rfl,rfl,rfl,rfl,rfl,rfl,hI,rfl⟩:=hrel
  obtain ⟨b1,b2,b3,b4,b5,b6⟩:=H1.out _ _ _ _ _ _ _ hI.out
  clear hi0 hi25
  by_cases hlt:j < l.length
  ·have hlt':(j:Int) < (l.length:Int):=by omega
   have hBj:j < (ByteArray.mk l.toArray).size:=by show j < l.toArray.size;simpa using hlt
   have hbj:((ByteArray.mk l.toArray)[j]'hBj).toNat=l[j].toNat:=rfl
   rcases H2.out j hlt _ _ _ _ _ _ hI.out with c46 | ⟨c48,c57⟩ | c101
   ·obtain ⟨rfl,hN⟩:=H3.out j hlt _ _ _ _ _ _ hI.out c46
    have HN:Hid _:=hN
    have t95:((((ByteArray.mk l.toArray)[j]'hBj).toNat:Int) == 95)=false:=by rw [beq_eq_false_iff_ne,hbj];omega
    have t46:((((ByteArray.mk l.toArray)[j]'hBj).toNat:Int) == 46)=true:=by rw [beq_iff_eq,hbj];omega
    clear hbj c46 hN hI b1 b4 b5 b6
    as_aux_lemma =>
     go_wp2_with fail
     exact ⟨⟨j+1,M,N,K,N,true,b,by omega,rfl,rfl,by go_num,rfl,rfl,rfl,rfl,rfl,rfl,HN,True.intro⟩,by simp [intOf];omega⟩
   ·have t95:((((ByteArray.mk l.toArray)[j]'hBj).toNat:Int) == 95)=false:=by rw [beq_eq_false_iff_ne,hbj];omega
    have t46:((((ByteArray.mk l.toArray)[j]'hBj).toNat:Int) == 46)=false:=by rw [beq_eq_false_iff_ne,hbj];omega
    have t48:(48:Int)≤(((ByteArray.mk l.toArray)[j]'hBj).toNat:Int):=by rw [hbj];omega
    have t57:(((ByteArray.mk l.toArray)[j]'hBj).toNat:Int)≤57:=by rw [hbj];omega
    by_cases cz:l[j].toNat=48∧N=0
    ·obtain ⟨c0,rfl⟩:=cz
     have HN:Hid _:=H4.out j hlt _ _ _ _ _ _ hI.out c0 rfl
     have t0:((((ByteArray.mk l.toArray)[j]'hBj).toNat:Int) == 48)=true:=by rw [beq_iff_eq,hbj];omega
     clear hbj c48 c57 c0 hI b1 b4
     as_aux_lemma =>
      go_wp2_with fail
      exact ⟨⟨j+1,M,0,K,P - 1,a,true,by omega,rfl,rfl,by go_num,rfl,rfl,rfl,rfl,rfl,by go_num,HN,True.intro⟩,by simp [intOf];omega⟩
    ·obtain ⟨k1,k2⟩:=H5.out j hlt _ _ _ _ _ _ hI.out c48 c57 cz
     have K1:Hid _:=k1
     have K2:Hid _:=k2
     clear k1 k2
     by_cases cK:K < 19
     ·have HN:Hid _:=K1.out cK
      have tK:(K:Int) < 19:=by omega
      have hM:=b4 cK
      clear K1 K2 b4 hI
      by_cases c0:l[j].toNat=48
      ·have t0:((((ByteArray.mk l.toArray)[j]'hBj).toNat:Int) == 48)=true:=by rw [beq_iff_eq,hbj];omega
       have tN:((N:Int) == 0)=false:=by rw [beq_eq_false_iff_ne];omega
       clear hbj c0 cz
       as_aux_lemma =>
        go_wp2_with fail
        refine ⟨⟨j+1,_,N+1,K+1,P,a,true,by omega,?_,rfl,by go_num,rfl,rfl,rfl,by go_num,by go_num,rfl,HN,True.intro⟩,by simp [intOf];omega⟩
        show Value.int .u64 ((M:Int)*10+((l[j].toNat:Int) - 48))=_
        congr 1
        omega
      ·have t0:((((ByteArray.mk l.toArray)[j]'hBj).toNat:Int) == 48)=false:=by rw [beq_eq_false_iff_ne,hbj];omega
       clear hbj c0 cz
       as_aux_lemma =>
        go_wp2_with fail
        refine ⟨⟨j+1,_,N+1,K+1,P,a,true,by omega,?_,rfl,by go_num,rfl,rfl,rfl,by go_num,by go_num,rfl,HN,True.intro⟩,by simp [intOf];omega⟩
        show Value.int .u64 ((M:Int)*10+((l[j].toNat:Int) - 48))=_
        congr 1
        omega
     ·obtain ⟨c0,hN⟩:=K2.out cK
      have HN:Hid _:=hN
      have tK:¬ (K:Int) < 19:=by omega
      have t0:((((ByteArray.mk l.toArray)[j]'hBj).toNat:Int) == 48)=true:=by rw [beq_iff_eq,hbj];omega
      have t0':((((ByteArray.mk l.toArray)[j]'hBj).toNat:Int) != 48)=false:=by rw [bne_eq_false_iff_eq,hbj];omega
      have tN:((N:Int) == 0)=false:=by rw [beq_eq_false_iff_ne];omega
      clear hbj c0 cz hN K1 K2 b4 hI
      as_aux_lemma =>
       go_wp2_with fail
       exact ⟨⟨j+1,M,N+1,K,P,a,true,by omega,rfl,rfl,by go_num,rfl,rfl,rfl,by go_num,rfl,rfl,HN,True.intro⟩,by simp [intOf];omega⟩
   ·obtain ⟨rfl,h',hex⟩:=H7.out j hlt _ _ _ _ _ _ hI.out c101
    have HE:Hid _:=hex
    have t95:((((ByteArray.mk l.toArray)[j]'hBj).toNat:Int) == 95)=false:=by rw [beq_eq_false_iff_ne,hbj];omega
    have t46:((((ByteArray.mk l.toArray)[j]'hBj).toNat:Int) == 46)=false:=by rw [beq_eq_false_iff_ne,hbj];omega
    have t48:(48:Int)≤(((ByteArray.mk l.toArray)[j]'hBj).toNat:Int):=by rw [hbj];omega
    have t57:¬ (((ByteArray.mk l.toArray)[j]'hBj).toNat:Int)≤57:=by rw [hbj];omega
    clear hbj hex hI
    as_aux_lemma =>
     go_upto_if 142 with fail
     go_cut [17] from 21 (fun s W=>s=.int .i64 (if a then P else (N:Int))∧W=wr)
     case first =>
      as_aux_lemma =>
       cases a <;> (go_wp2_with fail;go_meet;exact ⟨rfl,rfl⟩)
     case rest =>
     obtain ⟨rfl,rfl⟩:=hcut
     have hQ0:-25≤(if a then P else (N:Int)):=by split <;> omega
     have hQ1:(if a then P else (N:Int))≤25:=by split <;> omega
     unfold xOut at HE
     generalize (if a then P else (N:Int))=Q at *
     have HE':Hid _:=HE.out
     clear HE
     have hB1:j+1 < (ByteArray.mk l.toArray).size:=by show j+1 < l.toArray.size;simpa using h'
     have hb1:((ByteArray.mk l.toArray)[j+1]'hB1).toNat=l[j+1].toNat:=rfl
     have hj1:(j:Int)+1 < (l.length:Int):=by omega
     go_upto_block 4 with (first
      | (go_at_call 223;refine (HLe.out _ c101 _).mono ?_;rintro e w' ⟨rfl,rfl⟩)
      | fail)
     go_cut [7,19] from 21 (fun s t W=>∃ (st:Nat) (sg:Int),s=.int .i64 (st:Int)∧t=.int .i64 sg∧Hid (X st 0)∧st < l.length∧(sg=1∧Hid (∀ E,X l.length E→R M (if M=0 then 0 else Q+(E:Int) - (K:Int)))∨sg=-1∧Hid (∀ E,X l.length E→R M (if M=0 then 0 else Q+-(E:Int) - (K:Int))))∧W=w')
     case first =>
      as_aux_lemma =>
       rcases HE'.out with ⟨m45,⟨h2',hX0⟩,hRE⟩ | ⟨m48,m57,hX0,hRE⟩
       ·have u43:((((ByteArray.mk l.toArray)[j+1]'hB1).toNat:Int) == 43)=false:=by rw [beq_eq_false_iff_ne,hb1];omega
        have u45:((((ByteArray.mk l.toArray)[j+1]'hB1).toNat:Int) == 45)=true:=by rw [beq_iff_eq,hb1];omega
        have u43':((l[j+1].toNat:Int) == 43)=false:=by rw [beq_eq_false_iff_ne];omega
        have u45':((l[j+1].toNat:Int) == 45)=true:=by rw [beq_iff_eq];omega
        have HX0:Hid _:=hX0
        have HRE:Hid _:=hRE
        clear hb1 hX0 hRE HE' m45
        go_wp2_with fail
        go_meet
        exact ⟨j+2,-1,by simp;omega,rfl,HX0,by omega,Or.inr ⟨rfl,HRE⟩,rfl⟩
       ·have u43:((((ByteArray.mk l.toArray)[j+1]'hB1).toNat:Int) == 43)=false:=by rw [beq_eq_false_iff_ne,hb1];omega
        have u45:((((ByteArray.mk l.toArray)[j+1]'hB1).toNat:Int) == 45)=false:=by rw [beq_eq_false_iff_ne,hb1];omega
        have u43':((l[j+1].toNat:Int) == 43)=false:=by rw [beq_eq_false_iff_ne];omega
        have u45':((l[j+1].toNat:Int) == 45)=false:=by rw [beq_eq_false_iff_ne];omega
        have HX0:Hid _:=hX0
        have HRE:Hid _:=hRE
        clear hb1 hX0 hRE HE' m48 m57
        go_wp2_with fail
        go_meet
        exact ⟨j+1,1,by simp,rfl,HX0,by omega,Or.inl ⟨rfl,HRE⟩,rfl⟩
     case rest =>
     obtain ⟨st,sg,rfl,rfl,HX0,hst,hsgn,rfl⟩:=hcut
     have hsg1:sg=1∨sg=-1:=by rcases hsgn with ⟨h,_⟩ | ⟨h,_⟩ <;> simp [h]
     have HS:Hid _:=hsgn
     clear hsgn HE' hb1 t95 t46 t48 t57
     have hst':(st:Int) < (l.length:Int):=by omega
     have hBs:st < (ByteArray.mk l.toArray).size:=by show st < l.toArray.size;simpa using hst
     have hbs:((ByteArray.mk l.toArray)[st]'hBs).toNat=l[st].toNat:=rfl
     obtain ⟨n1,n2,_⟩:=H9.out st hst 0 HX0.out
     have u48:¬ (((ByteArray.mk l.toArray)[st]'hBs).toNat:Int) < 48:=by rw [hbs];omega
     have u57:¬ (57:Int) < (((ByteArray.mk l.toArray)[st]'hBs).toNat:Int):=by rw [hbs];omega
     clear hbs n1 n2
     go_wp2_with fail
     go_loopw [7,9,20] (fun i us ev W=>∃ k E:Nat,k≤l.length∧i=.int .i64 (k:Int)∧us=.bool false∧ev=.int .i64 (E:Int)∧Hid (X k E)∧W=wc) (fun i _ _ _=>l.length - (intOf i).toNat)
     case atStart=>exact ⟨st,0,by omega,rfl,rfl,rfl,HX0,rfl⟩
     case round =>
      obtain ⟨k,E,hk,rfl,rfl,rfl,hXI,rfl⟩:=hrel
      have hE9:=H8.out _ _ hXI.out
      clear u48 u57
      by_cases hkl:k < l.length
      ·have hkl':(k:Int) < (l.length:Int):=by omega
       have hBk:k < (ByteArray.mk l.toArray).size:=by show k < l.toArray.size;simpa using hkl
       have hbk:((ByteArray.mk l.toArray)[k]'hBk).toNat=l[k].toNat:=rfl
       obtain ⟨n1,n2,n3⟩:=H9.out k hkl E hXI.out
       have N3:Hid _:=n3
       have v48:(48:Int)≤(((ByteArray.mk l.toArray)[k]'hBk).toNat:Int):=by rw [hbk];omega
       have v57:(((ByteArray.mk l.toArray)[k]'hBk).toNat:Int)≤57:=by rw [hbk];omega
       have v95:((((ByteArray.mk l.toArray)[k]'hBk).toNat:Int) == 95)=false:=by rw [beq_eq_false_iff_ne,hbk];omega
       have vE:(E:Int) < 10000:=by omega
       clear hbk n3 hXI
       as_aux_lemma =>
        go_wp2_with fail
        refine ⟨⟨k+1,_,by omega,by go_num,rfl,?_,N3,True.intro⟩,by simp [intOf];omega⟩
        show Value.int .i64 ((E:Int)*10+(l[k].toNat:Int) - 48)=_
        congr 1
        omega
      ·obtain rfl:k=l.length:=by omega
       have hkl':¬ (l.length:Int) < (l.length:Int):=by omega
       as_aux_lemma =>
        rcases HS.out with ⟨rfl,hRE⟩ | ⟨rfl,hRE⟩
        ·have HR:=hRE.out E hXI.out
         clear hXI hRE HS
         by_cases hM:M=0
         ·subst hM
          rw [if_pos rfl] at HR
          have HR':Hid _:=HR
          clear HR
          go_wp2_with fail
          show bodyPost _ _ _ _ _ _
          simp [bodyPost,results,Tryz.results255,go_sem]
          exact ⟨0,0,⟨rfl,rfl⟩,HR'.out⟩
         ·rw [if_neg hM] at HR
          have tM:((M:Int) != 0)=true:=by rw [bne_iff_ne];omega
          have HR':Hid _:=HR
          clear HR
          go_wp2_with fail
          show bodyPost _ _ _ _ _ _
          simp [bodyPost,results,Tryz.results255,go_sem]
          refine ⟨M,_,⟨rfl,?_⟩,HR'.out⟩
          omega
        ·have HR:=hRE.out E hXI.out
         clear hXI hRE HS
         by_cases hM:M=0
         ·subst hM
          rw [if_pos rfl] at HR
          have HR':Hid _:=HR
          clear HR
          go_wp2_with fail
          show bodyPost _ _ _ _ _ _
          simp [bodyPost,results,Tryz.results255,go_sem]
          exact ⟨0,0,⟨rfl,rfl⟩,HR'.out⟩
         ·rw [if_neg hM] at HR
          have tM:((M:Int) != 0)=true:=by rw [bne_iff_ne];omega
          have HR':Hid _:=HR
          clear HR
          go_wp2_with fail
          show bodyPost _ _ _ _ _ _
          simp [bodyPost,results,Tryz.results255,go_sem]
          refine ⟨M,_,⟨rfl,?_⟩,HR'.out⟩
          omega
  ·obtain rfl:j=l.length:=by omega
   have hlt':¬ (l.length:Int) < (l.length:Int):=by omega
   obtain ⟨rfl,hR⟩:=H6.out _ _ _ _ _ _ hI.out
   unfold xOut at hR
   have HR0:Hid _:=hR
   clear hI b1 b4 hR
   as_aux_lemma =>
    go_upto_if 142 with fail
    go_cut [17] from 21 (fun s W=>s=.int .i64 (if a then P else (N:Int))∧W=wr)
    case first =>
     as_aux_lemma =>
      cases a <;> (go_wp2_with fail;go_meet;exact ⟨rfl,rfl⟩)
    case rest =>
    obtain ⟨rfl,rfl⟩:=hcut
    have hQ0:-25≤(if a then P else (N:Int)):=by split <;> omega
    have hQ1:(if a then P else (N:Int))≤25:=by split <;> omega
    have HR:=HR0.out
    clear HR0
    generalize (if a then P else (N:Int))=Q at *
    by_cases hM:M=0
    ·subst hM
     rw [if_pos rfl] at HR
     have HR':Hid _:=HR
     clear HR
     go_wp2_with fail
     show bodyPost _ _ _ _ _ _
     simp [bodyPost,results,Tryz.results255,go_sem]
     exact ⟨0,0,⟨rfl,rfl⟩,HR'.out⟩
    ·rw [if_neg hM] at HR
     have tM:((M:Int) != 0)=true:=by rw [bne_iff_ne];omega
     have HR':Hid _:=HR
     clear HR
     go_wp2_with fail
     show bodyPost _ _ _ _ _ _
     simp [bodyPost,results,Tryz.results255,go_sem]
     refine ⟨M,_,⟨rfl,?_⟩,HR'.out⟩
     omega
end Go.Proofs.YtfkbjdgbpenflaaGreatDoor.Rl
