/- rightShift. Own work of the verifier. -/
import Derived.Test.YtifapjammoahgaaGreatDoorSAG
import Derived.Test.YtifapjammoahgaaGreatDoorShelf
set_option maxRecDepth 100000
set_option maxHeartbeats 4000000
namespace Go.Proofs.YtifapjammoahgaaGreatDoor.Rl
open Go.RowKit
def padD (D:Nat→Nat) (n:Nat):Nat→Nat:=fun i=>if i < n then D i else 48
theorem padD_lt {D:Nat→Nat} {n i:Nat} (h:i < n):padD D n i=D i:=if_pos h
theorem padD_ge {D:Nat→Nat} {n i:Nat} (h:n≤i):padD D n i=48:=if_neg (by omega)
theorem padD_dig {D:Nat→Nat} {n:Nat} (h:Good D n) (i:Nat):48≤padD D n i∧padD D n i≤57:=by
  unfold padD;split
  · rename_i c;exact h.dig i c
  · omega
theorem padD_zero {D:Nat→Nat} {n:Nat} (h:Good D n):padD D n 0=D 0:=padD_lt h.pos
def v2:Nat→Nat→Nat
  | 0,_=>0
  | f+1,n=>if n % 2=0 then v2 f (n / 2)+1 else 0
theorem v2_dvd:∀ f n,2 ^ v2 f n ∣ n
  | 0,n=>by simp [v2]
  | f+1,n=>by
    unfold v2
    split
    · obtain ⟨y,hy⟩:=v2_dvd f (n / 2)
      refine ⟨y,?_⟩
      rw [Nat.pow_succ,Nat.mul_right_comm,← hy]
      omega
    · simp
theorem v2_ge:∀ f n s,s≤f→2 ^ s ∣ n→s≤v2 f n
  | _,_,0,_,_=>Nat.zero_le _
  | 0,_,s+1,h,_=>by omega
  | f+1,n,s+1,h,hd=>by
    obtain ⟨y,rfl⟩:=hd
    unfold v2
    have e:2 ^ (s+1)*y=2*(2 ^ s*y):=by rw [Nat.pow_succ,Nat.mul_comm (2 ^ s) 2,Nat.mul_assoc]
    rw [if_pos (by rw [e];omega)]
    have:=v2_ge f (2 ^ (s+1)*y / 2) s (by omega) ⟨y,by rw [e];omega⟩
    omega
def mu (n:Nat):Nat:=if n=0 then 0 else 65 - v2 64 n
theorem v2_le:∀ f n,v2 f n≤f
  | 0,_=>Nat.le_refl _
  | f+1,n=>by
    unfold v2
    split
    · have:=v2_le f (n / 2);omega
    · omega
theorem mu_down (n k:Nat) (hn:n≠0) (hk:k≤60):mu (n % 2 ^ k*10) < mu n:=by
  unfold mu
  rw [if_neg hn]
  have h64:=v2_le 64 n
  by_cases h:n % 2 ^ k*10=0
  · rw [if_pos h];omega
  · rw [if_neg h]
    have hd:=v2_dvd 64 n
    have hlt:v2 64 n < k:=by
      rcases Nat.lt_or_ge (v2 64 n) k with c | c
      · exact c
      · have:2 ^ k ∣ n:=Nat.dvd_trans (Nat.pow_dvd_pow 2 c) hd
        have:=Nat.mod_eq_zero_of_dvd this
        omega
    have h1:2 ^ v2 64 n ∣ n % 2 ^ k:=(Nat.dvd_mod_iff (Nat.pow_dvd_pow 2 (by omega))).2 hd
    obtain ⟨y,hy⟩:=h1
    have h2:2 ^ (v2 64 n+1) ∣ n % 2 ^ k*10:=⟨5*y,by rw [hy,Nat.pow_succ,Nat.mul_assoc,Nat.mul_assoc];congr 1;omega⟩
    have:=v2_ge 64 _ _ (by omega) h2
    omega
structure MI (D E:Nat→Nat) (q i:Nat):Prop where
  new:∀ x,x < i→48≤E x∧E x≤57
  fst:1≤i→E 0=48+q
theorem MI.step {D E:Nat→Nat} {q i v:Nat} (h:MI D E q i) (hv:48≤v∧v≤57) (h0:i=0→v=48+q):MI D (upd E i v) q (i+1):=by
  refine ⟨fun x hx=>?_,fun _=>?_⟩
  · by_cases c:x=i
    · subst c;rw [upd_same];exact hv
    · rw [upd_other E _ _ c];exact h.new x (by omega)
  · rcases Nat.eq_zero_or_pos i with c | c
    · subst c;rw [upd_same];exact h0 rfl
    · rw [upd_other E _ _ (by omega)];exact h.fst c
def Righted (g:Nat) (D:Nat→Nat) (dp:Int) (ng:Bool) (w w':World):Prop :=
  ∃ E m dp' tr',DecAt g E m dp' ng tr' w'∧Good E m∧(dp' < dp∨dp'=dp∧E 0 < D 0)∧dp - 20≤dp'∧Below g w w'
structure RI (F:Nat→Nat) (k j:Nat):Prop where
  pos:1≤j
  few:j≤20
  ge:2 ^ k≤pv F j
  lt:pv F j < 10*2 ^ k
theorem pv_few (F:Nat→Nat) (h0:49≤F 0) (j K:Nat) (hK:K≤1152921504606846976) (h:pv F j < K):j≤19:=by
  rcases Nat.eq_zero_or_pos j with rfl | hj
  · omega
  · have h1:=pv_ge F h0 (j - 1)
    rw [show j - 1+1=j from by omega] at h1
    rcases Nat.lt_or_ge j 20 with c | c
    · omega
    · have:10 ^ 19≤10 ^ (j - 1):=Nat.pow_le_pow_right (by decide) (by omega)
      omega
theorem div_nat (a b:Nat):(a:Int) / (b:Int)=((a / b:Nat):Int):=(Int.natCast_ediv a b).symm
theorem right_any (g:Nat) (D:Nat→Nat) (n k:Nat) (dp:Int) (ng tr:Bool) (hG:Good D n) (k0:1≤k) (k1:k≤60) (d0:-1000000000000≤dp) (d1:dp≤1000000000000) (w:World) (h:DecAt g D n dp ng tr w) :
    Calls Tryz.prog 157 #[.pointer (some ⟨g,0,none⟩),.int .u64 (k:Int)] w fun e w'=>e=.returned (.tuple #[])∧Righted g D dp ng w w':=by
  have hn:=hG.top
  have hn1:=hG.pos
  have HG:Hid _:=hG
  have c1:=h.nd
  have HF:Hid _:=padD_dig hG
  have HF0:Hid _:=padD_zero hG
  have H:Hid _:=h
  clear hG h
  obtain ⟨K,hK⟩:∃ K:Nat,2 ^ k=K:=⟨_,rfl⟩
  have hKi:(2:Int) ^ k=(K:Int):=by rw [← hK,Int.natCast_pow];rfl
  have hK60:K≤1152921504606846976:=by rw [← hK];exact Nat.pow_le_pow_right (by decide) k1
  have hK2:2≤K:=by rw [← hK];have:2 ^ 1≤2 ^ k:=Nat.pow_le_pow_right (by decide) k0;omega
  go_enter Tryz.func157,Tryz.ntmps157
  go_upto_block 0 with fail
  go_cut [4,6,7] from 12 (fun r nn _ W=>∃ j:Nat,r=.int .i64 (j:Int)∧nn=.int .u64 (pv (padD D n) j:Int)∧Hid (RI (padD D n) k j)∧W=w)
  case first =>
    have h49:49≤padD D n 0:=by rw [HF0.out];exact HG.out.fst
    have HJ:Hid (∀ j,padD D n j≤57∧48≤padD D n j∧pv (padD D n) (j+1)=pv (padD D n) j*10+(padD D n j - 48)):=fun j=>⟨(HF.out j).2,(HF.out j).1,rfl⟩
    have HP:Hid (∀ j,j < n→padD D n j=D j):=fun j hj=>padD_lt hj
    have HQ:Hid (∀ j,n≤j→padD D n j=48):=fun j hj=>padD_ge hj
    have HFew:Hid (∀ j,pv (padD D n) j < K→j≤19):=fun j hj=>pv_few _ h49 j K hK60 hj
    have HR:Hid (∀ j,j≤20→K≤pv (padD D n) j→pv (padD D n) j < 10*K→RI (padD D n) k j):=fun j h1 h2 h3=>by
      rw [← hK] at h2 h3
      refine ⟨?_,h1,h2,h3⟩
      rcases Nat.eq_zero_or_pos j with rfl | h
      · exact absurd h2 (by have:0 < 2 ^ k:=Nat.pow_pos (by decide);show ¬ 2 ^ k≤0;omega)
      · exact h
    have HN0:Hid (pv (padD D n) n≠0):=by
      have:=pv_ge (padD D n) h49 (n - 1)
      rw [show n - 1+1=n from by omega] at this
      have:0 < 10 ^ (n - 1):=Nat.pow_pos (by decide)
      show pv (padD D n) n≠0
      omega
    generalize padD D n=F at *
    clear h49 HF HF0
    as_aux_lemma =>
      go_wp2_with fail
      go_loopw [4,6,7] (fun r nn _ wr=>∃ j:Nat,j≤n∧j≤20∧r=.int .i64 (j:Int)∧nn=.int .u64 (pv F j:Int)∧Hid (pv F j < 10*K)∧wr=w) (fun r _ _ _=>21 - (intOf r).toNat)
      case atStart=>exact ⟨0,by omega,by omega,rfl,rfl,(by show 0 < 10*K;omega),rfl⟩
      case round =>
        obtain ⟨j,hjn,hj20,rfl,rfl,hlt,rfl⟩:=hrel
        have hdiv:=div_nat (pv F j) K
        have hmul:=Nat.div_add_mod (pv F j) K
        by_cases hge:K≤pv F j
        · have hq:((pv F j / K:Nat):Int)≠0:=by have:=Nat.div_pos hge (by omega);omega
          have hq':(((pv F j / K:Nat):Int) == 0)=false:=by rw [beq_eq_false_iff_ne];exact hq
          have HR':Hid _:=HR.out j hj20 hge hlt.out
          generalize pv F j / K=q at *
          clear hmul
          as_aux_lemma =>
            go_wp2_with fail
            go_meet
            exact ⟨j,rfl,rfl,HR'.out,rfl⟩
        · have hq:pv F j / K=0:=Nat.div_eq_of_lt (by omega)
          rw [hq] at hdiv
          have hj19:=HFew.out j (by omega)
          have hb:pv F j < 1152921504606846976:=by omega
          clear hmul hq
          obtain ⟨u1,u2,u3⟩:=HJ.out j
          by_cases hlt':j < n
          · have hlt2:¬ (n:Int)≤(j:Int):=by omega
            have c2:=H.out.dig j (by omega)
            rw [← HP.out j hlt'] at c2
            have HN:Hid (pv F (j+1) < 10*K):=by show pv F (j+1) < 10*K;omega
            have U3:Hid _:=u3
            clear u3
            generalize pv F j=P at *
            as_aux_lemma =>
              go_wp2_with fail
              refine ⟨⟨j+1,by omega,by omega,by go_num,?_,HN,True.intro⟩,by simp [intOf];omega⟩
              rw [U3.out]
              congr 1
              omega
          · obtain rfl:j=n:=by omega
            have hlt2:(j:Int)≤(j:Int):=by omega
            have hz:((pv F j:Int) == 0)=false:=by rw [beq_eq_false_iff_ne];have:=HN0.out;omega
            as_aux_lemma =>
              go_wp2_with fail
              go_loopw [4,6] (fun r nn wz=>∃ i:Nat,j≤i∧i≤20∧r=.int .i64 (i:Int)∧nn=.int .u64 (pv F i:Int)∧Hid (pv F i < 10*K)∧wz=wr) (fun r _ _=>21 - (intOf r).toNat)
              case atStart=>exact ⟨j,by omega,by omega,rfl,rfl,hlt,rfl⟩
              case round =>
                clear hdiv hz hge hlt hb u1 u2 u3 hj19
                obtain ⟨i,hji,hi20,rfl,rfl,hlt,rfl⟩:=hrel
                have hdiv:=div_nat (pv F i) K
                by_cases hge:K≤pv F i
                · have hq':(((pv F i / K:Nat):Int) == 0)=false:=by rw [beq_eq_false_iff_ne];have:=Nat.div_pos hge (by omega);omega
                  have HR':Hid _:=HR.out i hi20 hge hlt.out
                  generalize pv F i / K=q at *
                  as_aux_lemma =>
                    go_wp2_with fail
                    go_meet
                    exact ⟨i,rfl,rfl,HR'.out,rfl⟩
                · rw [Nat.div_eq_of_lt (by omega)] at hdiv
                  have hi19:=HFew.out i (by omega)
                  obtain ⟨u1,u2,u3⟩:=HJ.out i
                  rw [HQ.out i hji,Nat.sub_self,Nat.add_zero] at u3
                  have HN:Hid (pv F (i+1) < 10*K):=by show pv F (i+1) < 10*K;omega
                  have U3:Hid _:=u3
                  clear u3
                  generalize pv F i=P at *
                  as_aux_lemma =>
                    go_wp2_with fail
                    refine ⟨⟨i+1,by omega,by omega,by go_num,?_,HN,True.intro⟩,by simp [intOf];omega⟩
                    rw [U3.out]
                    congr 1
  case rest =>
  obtain ⟨j,rfl,rfl,hRI,rfl⟩:=hcut
  obtain ⟨hj1,hj20,hge,hlt⟩:=hRI.out
  rw [hK] at hge hlt
  have hP1:j=1→pv (padD D n) j=D 0 - 48:=fun h=>by
    subst h
    show pv (padD D n) 0*10+(padD D n 0 - 48)=_
    rw [HF0.out]
    show 0*10+(D 0 - 48)=_
    omega
  have HP1:Hid _:=hP1
  clear hRI hP1 HF HF0
  generalize pv (padD D n) j=P at *
  have c2:=H.out.dp
  have f2:=H.out.fr 801
  have HD1:Hid (DecAt g D n (dp - ((j:Int) - 1)) ng tr (wc.setCell ⟨g,801,none⟩ (.int .i64 (dp - ((j:Int) - 1))))):=H.out.setDp _
  have HB1:Hid (Below g wc (wc.setCell ⟨g,801,none⟩ (.int .i64 (dp - ((j:Int) - 1))))):=(Below.refl g wc).setCell (p:=⟨g,801,none⟩) (Nat.le_refl _) _
  have HAnd:Hid (∀ c,c < 10*K→bits .and .u64 (c:Int) ((K:Int) - 1)=((c % K:Nat):Int)):=fun c hc=>by
    have:=u64_and_nat c (K - 1) (by omega) (by omega)
    rw [show (((K - 1:Nat)):Int)=(K:Int) - 1 from by omega,← hK,Nat.and_two_pow_sub_one_eq_mod] at this
    rw [hK] at this
    exact this
  obtain ⟨dq,hdq⟩:∃ dq,dp - ((j:Int) - 1)=dq:=⟨_,rfl⟩
  rw [hdq] at HD1 HB1
  have hjb:800≤800:=Nat.le_refl _
  go_wp2_with fail
  go_loopw [4,5,6,9,10] (fun r wv nn _ _ wr=>∃ (i c:Nat) (E:Nat→Nat),r=.int .i64 ((j:Int)+(i:Int))∧wv=.int .i64 (i:Int)∧nn=.int .u64 (c:Int)∧i≤800∧c < 10*K∧Hid (i=0→c=P)∧Hid (MI D E (P / K) i)∧Hid (∀ x,i≤x→E x=D x)∧Hid (DecAt g E n dq ng tr wr)∧Below g wc wr) (fun r _ _ _ _ _=>n - (intOf r).toNat)
  case atStart =>
    exact ⟨0,P,D,by simp,rfl,rfl,by omega,hlt,fun _=>rfl,⟨fun x h=>by omega,fun h=>by omega⟩,fun _ _=>rfl,HD1,HB1.out⟩
  case round =>
    clear HD1 HB1 c1 c2 f2 H
    obtain ⟨i,c,E,rfl,rfl,rfl,hi8,hc,hc0,hM,hO,hI,hb⟩:=hrel
    have c1:=hI.out.nd
    by_cases hr:j+i < n
    · have hr':(j:Int)+(i:Int) < (n:Int):=by omega
      have c2:=hI.out.dig (j+i) (by omega)
      rw [hO.out (j+i) (by omega)] at c2
      have hdg:=HG.out.dig (j+i) (by omega)
      have c3:=hI.out.dig i (by omega)
      have f3:=hI.out.fr i
      have hdiv:=div_nat c K
      have hand:=HAnd.out c hc
      have hq9:c / K < 10:=by rw [Nat.div_lt_iff_lt_mul (by omega)];exact hc
      have hrK:c % K < K:=Nat.mod_lt _ (by omega)
      have HQ:Hid (i=0→c / K=P / K):=fun h=>by rw [hc0.out h]
      generalize c / K=q at *
      generalize c % K=r0 at *
      as_aux_lemma =>
        go_wp2_with fail
        have e1:((q:Int)+48)=((48+q:Nat):Int):=by omega
        rw [e1]
        refine ⟨⟨i+1,r0*10+D (j+i) - 48,upd E i (48+q),?_,by go_num,?_,by omega,by omega,fun h=>by omega,hM.out.step (by omega) (fun h=>by rw [HQ.out h]),fun x hx=>?_,hI.out.setDig _ _ (by omega),hb.setCell (Nat.le_refl _) _⟩,by simp [intOf];omega⟩
        · congr 1
        · congr 1;omega
        · rw [upd_other E _ _ (by omega)];exact hO.out x (by omega)
    · have hr':¬ (j:Int)+(i:Int) < (n:Int):=by omega
      clear c1
      as_aux_lemma =>
        have c1:=hI.out.nd
        go_wp2_with fail
        go_loopw [5,6,11] (fun wv nn _ wr=>∃ (i c:Nat) (E:Nat→Nat) (t:Bool),wv=.int .i64 (i:Int)∧nn=.int .u64 (c:Int)∧i≤800∧c < 10*K∧Hid (i=0→c=P)∧Hid (MI D E (P / K) i)∧Hid (DecAt g E n dq ng t wr)∧Below g wc wr) (fun _ nn _ _=>mu (intOf nn).toNat)
        case atStart=>exact ⟨i,c,E,tr,rfl,rfl,hi8,hc,hc0,hM,hI,hb⟩
        case round =>
          clear c1 hI hb hM hc0 hc hi8 hr hr' hO
          obtain ⟨i,c,E,t,rfl,rfl,hi8,hc,hc0,hM,hI,hb⟩:=hrel
          rcases Nat.eq_zero_or_pos c with rfl | hcp
          · have hi1:1≤i:=by
              rcases Nat.eq_zero_or_pos i with h | h
              · have:=hc0.out h;omega
              · exact h
            have hf:=hM.out.fst hi1
            have hq1:=Nat.div_pos hge (by omega)
            have hqP:P / K < P:=Nat.div_lt_self (by omega) (by omega)
            have HF:Hid (E 0=48+P / K∧0 < P / K∧P / K < P):=⟨hf,hq1,hqP⟩
            have HD:Hid (DecAt g E i dq ng t (wr.setCell ⟨g,800,none⟩ (.int .i64 (i:Int)))):=hI.out.setNd i
            have HB:Hid (Below g wc (wr.setCell ⟨g,800,none⟩ (.int .i64 (i:Int)))):=hb.setCell (p:=⟨g,800,none⟩) (Nat.le_refl _) _
            have c1:=hI.out.nd
            have f1:=hI.out.fr 800
            clear hf hq1 hqP hc0
            as_aux_lemma =>
              go_wp2_with (first
                | (go_at_call 155;with_reducible refine (trim_any g E i dq ng t (by omega) _ HD.out).mono ?_;rintro e' w' ⟨rfl,ht⟩)
                | fail)
              refine bodyPost_end (results_none rfl _ _ _) rfl ?_
              obtain ⟨hf,hq1,hqP⟩:=HF.out
              obtain ⟨m,dp',hd,hm,hp,hbt⟩:=ht
              obtain ⟨hm1,rfl⟩:=hp (by omega) (by omega)
              refine ⟨rfl,E,m,_,t,hd,⟨hm1,by omega,fun x hx=>hM.out.new x (by omega),by omega⟩,?_,by omega,HB.out.trans hbt⟩
              rcases Nat.lt_or_ge 1 j with h1 | h1
              · exact Or.inl (by omega)
              · have:=HP1.out (by omega)
                exact Or.inr ⟨by omega,by omega⟩
          · have hcp':(0:Int) < (c:Int):=by omega
            have hdiv:=div_nat c K
            have hand:=HAnd.out c hc
            have hq9:c / K < 10:=by rw [Nat.div_lt_iff_lt_mul (by omega)];exact hc
            have hrK:c % K < K:=Nat.mod_lt _ (by omega)
            have HQ:Hid (i=0→c / K=P / K):=fun h=>by rw [hc0.out h]
            have HQ1:Hid (i=0→1≤P / K):=fun h=>Nat.div_pos hge (by omega)
            have HM:Hid (mu (c % K*10) < mu c):=by rw [← hK];exact mu_down c k (by omega) k1
            generalize c / K=q at *
            generalize c % K=r0 at *
            by_cases hi:i < 800
            · have hi':(i:Int) < 800:=by omega
              have c3:=hI.out.dig i hi
              have f3:=hI.out.fr i
              as_aux_lemma =>
                go_wp2_with fail
                have e1:((q:Int)+48)=((48+q:Nat):Int):=by omega
                rw [e1]
                refine ⟨⟨i+1,r0*10,upd E i (48+q),t,by go_num,?_,by omega,by omega,fun h=>by omega,hM.out.step (by omega) (fun h=>by rw [HQ.out h]),hI.out.setDig _ _ hi,hb.setCell (Nat.le_refl _) _⟩,?_⟩
                · congr 1
                · simp only [intOf]
                  rw [show ((r0:Int)*10).toNat=r0*10 from by omega,Int.toNat_natCast]
                  exact HM.out
            · have hi':¬ (i:Int) < 800:=by omega
              have c3:=hI.out.tr
              have f3:=hI.out.fr 803
              as_aux_lemma =>
                go_wp2_with fail
                · refine ⟨⟨i,r0*10,E,true,rfl,?_,by omega,by omega,fun h=>by omega,hM,hI.out.setTr true,hb.setCell (Nat.le_refl _) _⟩,?_⟩
                  · congr 1
                  · simp only [intOf]
                    rw [show ((r0:Int)*10).toNat=r0*10 from by omega,Int.toNat_natCast]
                    exact HM.out
                · refine ⟨⟨i,r0*10,E,t,rfl,?_,by omega,by omega,fun h=>by omega,hM,hI,hb⟩,?_⟩
                  · congr 1
                  · simp only [intOf]
                    rw [show ((r0:Int)*10).toNat=r0*10 from by omega,Int.toNat_natCast]
                    exact HM.out
end Go.Proofs.YtifapjammoahgaaGreatDoor.Rl
/- Shift. Own work of the verifier. -/
set_option maxRecDepth 100000
set_option maxHeartbeats 2000000
namespace Go.Proofs.YtifapjammoahgaaGreatDoor.Rl
open Go.RowKit
def LeftedBy (k:Nat) (g:Nat) (D:Nat→Nat) (dp:Int) (ng:Bool) (w w':World):Prop :=
  ∃ E m dp' tr',DecAt g E m dp' ng tr' w'∧Good E m∧(dp < dp'∨dp=dp'∧D 0 < E 0)∧dp'≤dp+20+(k:Int)∧Below g w w'
def RightedBy (k:Nat) (g:Nat) (D:Nat→Nat) (dp:Int) (ng:Bool) (w w':World):Prop :=
  ∃ E m dp' tr',DecAt g E m dp' ng tr' w'∧Good E m∧(dp' < dp∨dp'=dp∧E 0 < D 0)∧dp - 20 - (k:Int)≤dp'∧Below g w w'
theorem shift_left (g:Nat) (D:Nat→Nat) (n k:Nat) (dp:Int) (ng tr:Bool) (hG:Good D n) (k0:1≤k) (k1:k≤1000000) (d0:-1000000000≤dp) (d1:dp≤1000000000) (w:World) (h:DecAt g D n dp ng tr w) (hC:CheatB g w) :
    Calls Tryz.prog 115 #[.pointer (some ⟨g,0,none⟩),.int .i64 (k:Int)] w fun e w'=>e=.returned (.tuple #[])∧LeftedBy k g D dp ng w w':=by
  have HG:Hid _:=hG
  have HC:Hid _:=hC
  have H:Hid _:=h
  have hz:((n:Int) == 0)=false:=by rw [beq_eq_false_iff_ne];have:=hG.pos;omega
  have c1:=h.nd
  have hp:decide ((0:Int) < (k:Int))=true:=by rw [decide_eq_true_eq];omega
  have hp':decide (0 < k)=true:=by rw [decide_eq_true_eq];omega
  clear hG hC h
  go_enter Tryz.func115,Tryz.ntmps115
  go_wp2_with fail
  go_loopw [1] (fun kv wr=>∃ (j m:Nat) (E:Nat→Nat) (dq:Int) (t:Bool),kv=.int .i64 (j:Int)∧1≤j∧j≤k∧3*dq+j≤3*dp+k∧Hid (dp < dq∨dp=dq∧D 0≤E 0)∧dp≤dq∧Hid (Good E m)∧Hid (DecAt g E m dq ng t wr)∧Hid (CheatB g wr)∧Below g w wr) (fun kv _=>(intOf kv).toNat)
  case atStart=>exact ⟨k,n,D,dp,tr,rfl,k0,by omega,by omega,Or.inr ⟨rfl,Nat.le_refl _⟩,by omega,HG,H,HC,Below.refl _ _⟩
  case round =>
    clear HG H HC c1 hz hp hp'
    obtain ⟨j,m,E,dq,t,rfl,hj1,hjk,h3,hmon,hle,hG,hI,hC,hb⟩:=hrel
    by_cases h60:60 < j
    · have h60':(60:Int) < (j:Int):=by omega
      have HL:Hid (Calls Tryz.prog 156 #[.pointer (some ⟨g,0,none⟩),.int .u64 60] wr fun e w'=>e=.returned (.tuple #[])∧Lefted g E dq ng wr w'):=left_any g E m 60 dq ng t hG.out (by omega) (by omega) (by omega) (by omega) wr hI.out hC.out
      as_aux_lemma =>
        go_wp2_with (first
          | (go_at_call 156;with_reducible refine Calls.mono HL.out ?_;rintro e' w' ⟨rfl,ht⟩)
          | fail)
        obtain ⟨E',m',dp',tr',hd,hg',hm',hle',hb'⟩:=ht
        refine ⟨⟨j - 60,m',E',dp',tr',?_,by omega,by omega,by omega,?_,by omega,hg',hd,hC.out.below hb',hb.trans hb'⟩,by simp [intOf];omega⟩
        · congr 1;omega
        · rcases hmon.out with c | ⟨c,c'⟩ <;> rcases hm' with c2 | ⟨c2,c2'⟩
          · exact Or.inl (by omega)
          · exact Or.inl (by omega)
          · exact Or.inl (by omega)
          · exact Or.inr ⟨by omega,by omega⟩
    · have h60':¬ (60:Int) < (j:Int):=by omega
      have HL:Hid (Calls Tryz.prog 156 #[.pointer (some ⟨g,0,none⟩),.int .u64 (j:Int)] wr fun e w'=>e=.returned (.tuple #[])∧Lefted g E dq ng wr w'):=left_any g E m j dq ng t hG.out (by omega) (by omega) (by omega) (by omega) wr hI.out hC.out
      as_aux_lemma =>
        go_wp2_with (first
          | (go_at_call 156;with_reducible refine Calls.mono HL.out ?_;rintro e' w' ⟨rfl,ht⟩)
          | fail)
        refine bodyPost_end (results_none rfl _ _ _) rfl ?_
        obtain ⟨E',m',dp',tr',hd,hg',hm',hle',hb'⟩:=ht
        refine ⟨rfl,E',m',dp',tr',hd,hg',?_,by omega,hb.trans hb'⟩
        rcases hmon.out with c | ⟨c,c'⟩ <;> rcases hm' with c2 | ⟨c2,c2'⟩
        · exact Or.inl (by omega)
        · exact Or.inl (by omega)
        · exact Or.inl (by omega)
        · exact Or.inr ⟨by omega,by omega⟩
theorem shift_right (g:Nat) (D:Nat→Nat) (n k:Nat) (dp:Int) (ng tr:Bool) (hG:Good D n) (k0:1≤k) (k1:k≤1000000) (d0:-1000000000≤dp) (d1:dp≤1000000000) (w:World) (h:DecAt g D n dp ng tr w) :
    Calls Tryz.prog 115 #[.pointer (some ⟨g,0,none⟩),.int .i64 (-(k:Int))] w fun e w'=>e=.returned (.tuple #[])∧RightedBy k g D dp ng w w':=by
  have HG:Hid _:=hG
  have H:Hid _:=h
  have hz:((n:Int) == 0)=false:=by rw [beq_eq_false_iff_ne];have:=hG.pos;omega
  have c1:=h.nd
  have hp:¬ (0:Int) < -(k:Int):=by omega
  have hp2:-(k:Int) < 0:=by omega
  clear hG h
  go_enter Tryz.func115,Tryz.ntmps115
  go_wp2_with fail
  go_loopw [1] (fun kv wr=>∃ (j m:Nat) (E:Nat→Nat) (dq:Int) (t:Bool),kv=.int .i64 (-(j:Int))∧1≤j∧j≤k∧3*dp+j≤3*dq+k∧Hid (dq < dp∨dq=dp∧E 0≤D 0)∧dq≤dp∧Hid (Good E m)∧Hid (DecAt g E m dq ng t wr)∧Below g w wr) (fun kv _=>(-(intOf kv)).toNat)
  case atStart=>exact ⟨k,n,D,dp,tr,rfl,k0,by omega,by omega,Or.inr ⟨rfl,Nat.le_refl _⟩,by omega,HG,H,Below.refl _ _⟩
  case round =>
    clear HG H c1 hz hp hp2
    obtain ⟨j,m,E,dq,t,rfl,hj1,hjk,h3,hmon,hle,hG,hI,hb⟩:=hrel
    by_cases h60:60 < j
    · have h60':-(j:Int) < -60:=by omega
      have HL:Hid (Calls Tryz.prog 157 #[.pointer (some ⟨g,0,none⟩),.int .u64 60] wr fun e w'=>e=.returned (.tuple #[])∧Righted g E dq ng wr w'):=right_any g E m 60 dq ng t hG.out (by omega) (by omega) (by omega) (by omega) wr hI.out
      as_aux_lemma =>
        go_wp2_with (first
          | (go_at_call 157;with_reducible refine Calls.mono HL.out ?_;rintro e' w' ⟨rfl,ht⟩)
          | fail)
        obtain ⟨E',m',dp',tr',hd,hg',hm',hle',hb'⟩:=ht
        refine ⟨⟨j - 60,m',E',dp',tr',?_,by omega,by omega,by omega,?_,by omega,hg',hd,hb.trans hb'⟩,by simp [intOf];omega⟩
        · congr 1;omega
        · rcases hmon.out with c | ⟨c,c'⟩ <;> rcases hm' with c2 | ⟨c2,c2'⟩
          · exact Or.inl (by omega)
          · exact Or.inl (by omega)
          · exact Or.inl (by omega)
          · exact Or.inr ⟨by omega,by omega⟩
    · have h60':¬ -(j:Int) < -60:=by omega
      have HL:Hid (Calls Tryz.prog 157 #[.pointer (some ⟨g,0,none⟩),.int .u64 (j:Int)] wr fun e w'=>e=.returned (.tuple #[])∧Righted g E dq ng wr w'):=right_any g E m j dq ng t hG.out (by omega) (by omega) (by omega) (by omega) wr hI.out
      as_aux_lemma =>
        go_wp2_with (first
          | (go_at_call 157;with_reducible refine Calls.mono HL.out ?_;rintro e' w' ⟨rfl,ht⟩)
          | fail)
        refine bodyPost_end (results_none rfl _ _ _) rfl ?_
        obtain ⟨E',m',dp',tr',hd,hg',hm',hle',hb'⟩:=ht
        refine ⟨rfl,E',m',dp',tr',hd,hg',?_,by omega,hb.trans hb'⟩
        rcases hmon.out with c | ⟨c,c'⟩ <;> rcases hm' with c2 | ⟨c2,c2'⟩
        · exact Or.inl (by omega)
        · exact Or.inl (by omega)
        · exact Or.inl (by omega)
        · exact Or.inr ⟨by omega,by omega⟩
end Go.Proofs.YtifapjammoahgaaGreatDoor.Rl
/- shouldRoundUp, RoundedInteger. Own work of the verifier. -/
set_option maxRecDepth 100000
set_option maxHeartbeats 2000000
namespace Go.Proofs.YtifapjammoahgaaGreatDoor.Rl
open Go.RowKit
def TellsB (e:Ending):Prop:=∃ b:Bool,e=.returned (.bool b)
def TellsU (e:Ending):Prop:=∃ v:Nat,e=.returned (.int .u64 (v:Int))∧v < 18446744073709551616
theorem round_some (g:Nat) (D:Nat→Nat) (n:Nat) (dp:Int) (ng tr:Bool) (x:Int) (hG:Good D n) (w:World) (h:DecAt g D n dp ng tr w) :
    Calls Tryz.prog 158 #[.pointer (some ⟨g,0,none⟩),.int .i64 x] w fun e w'=>TellsB e∧w'=w:=by
  have hn:=hG.top
  have c1:=h.nd
  by_cases hx:x < 0
  · go_enter Tryz.func158,Tryz.ntmps158
    go_wp2_with fail
    go_ret
    exact ⟨⟨_,rfl⟩,rfl⟩
  · obtain ⟨m,rfl⟩:∃ m:Nat,x=(m:Int):=⟨x.toNat,by omega⟩
    by_cases hm:n≤m
    · have hm':(n:Int)≤(m:Int):=by omega
      go_enter Tryz.func158,Tryz.ntmps158
      go_wp2_with fail
      go_ret
      exact ⟨⟨_,rfl⟩,rfl⟩
    · have hm':¬ (n:Int)≤(m:Int):=by omega
      have c2:=h.dig m (by omega)
      have c3:=h.tr
      have hd:=hG.dig m (by omega)
      by_cases hhalf:D m=53∧m+1=n
      · have t1:((D m:Int) == 53)=true:=by rw [beq_iff_eq];omega
        have t2:((m:Int)+1 == (n:Int))=true:=by rw [beq_iff_eq];omega
        cases tr
        · rcases Nat.eq_zero_or_pos m with h0 | h0
          · have t3:decide ((0:Int) < (m:Int))=false:=by rw [decide_eq_false_iff_not];omega
            have t4:decide (0 < m)=false:=by rw [decide_eq_false_iff_not];omega
            clear h0
            go_enter Tryz.func158,Tryz.ntmps158
            go_wp2_with fail
            go_ret
            exact ⟨⟨_,rfl⟩,rfl⟩
          · obtain ⟨q,rfl⟩:∃ q,m=q+1:=⟨m - 1,by omega⟩
            have c4:=h.dig q (by omega)
            have hd4:=hG.dig q (by omega)
            go_enter Tryz.func158,Tryz.ntmps158
            go_wp2_with fail
            go_ret
            exact ⟨⟨_,rfl⟩,rfl⟩
        · go_enter Tryz.func158,Tryz.ntmps158
          go_wp2_with fail
          go_ret
          exact ⟨⟨_,rfl⟩,rfl⟩
      · by_cases h5:D m=53
        · have t1:((D m:Int) == 53)=true:=by rw [beq_iff_eq];omega
          have t2:((m:Int)+1 == (n:Int))=false:=by rw [beq_eq_false_iff_ne];omega
          go_enter Tryz.func158,Tryz.ntmps158
          go_wp2_with fail
          go_ret
          exact ⟨⟨_,rfl⟩,rfl⟩
        · have t1:((D m:Int) == 53)=false:=by rw [beq_eq_false_iff_ne];omega
          go_enter Tryz.func158,Tryz.ntmps158
          go_wp2_with fail
          go_ret
          exact ⟨⟨_,rfl⟩,rfl⟩
theorem wrapU (x:Int):∃ v:Nat,v < 18446744073709551616∧IntKind.u64.wrap x=(v:Int):=by
  refine ⟨(x % 18446744073709551616).toNat,by omega,?_⟩
  show x % 18446744073709551616=_
  omega
theorem integer_some (g:Nat) (D:Nat→Nat) (n:Nat) (dp:Int) (ng tr:Bool) (hG:Good D n) (d0:-1000000000≤dp) (d1:dp≤1000000000) (w:World) (h:DecAt g D n dp ng tr w) :
    Calls Tryz.prog 198 #[.pointer (some ⟨g,0,none⟩)] w fun e w'=>TellsU e∧w'=w:=by
  have hn:=hG.top
  have c1:=h.nd
  have c2:=h.dp
  have HU:Hid _:=fun x=>round_some g D n dp ng tr x hG w h
  have H:Hid _:=h
  have HG:Hid _:=hG
  clear h hG
  by_cases h20:20 < dp
  · go_enter Tryz.func198,Tryz.ntmps198
    go_wp2_with fail
    go_ret
    exact ⟨⟨_,rfl,by decide⟩,rfl⟩
  · go_enter Tryz.func198,Tryz.ntmps198
    go_upto_block 0 with fail
    go_cut [3,4] from 10 (fun i v W=>∃ (j m:Nat),i=.int .i64 (j:Int)∧j≤20∧v=.int .u64 (m:Int)∧m < 18446744073709551616∧W=w)
    case first =>
      as_aux_lemma =>
        go_wp2_with fail
        go_loopw [3,4] (fun i v W=>∃ (j m:Nat),i=.int .i64 (j:Int)∧j≤20∧v=.int .u64 (m:Int)∧m < 18446744073709551616∧W=w) (fun i _ _=>21 - (intOf i).toNat)
        case atStart=>exact ⟨0,0,rfl,by omega,rfl,by decide,rfl⟩
        case round =>
          obtain ⟨j,m,rfl,hj,rfl,hm,rfl⟩:=hrel
          by_cases hjd:(j:Int) < dp
          · by_cases hjn:(j:Int) < (n:Int)
            · have c3:=H.out.dig j (by omega)
              have hd:=HG.out.dig j (by omega)
              as_aux_lemma =>
                go_wp2_with fail
                obtain ⟨v,hv,hw⟩:=wrapU (IntKind.u64.wrap ((m:Int)*10)+((D j:Int) - 48))
                rw [hw]
                exact ⟨⟨j+1,v,by go_num,by omega,rfl,hv,True.intro⟩,by simp [intOf];omega⟩
            · as_aux_lemma =>
                go_wp2_with fail
                go_meet
                exact ⟨j,m,rfl,hj,rfl,hm,rfl⟩
          · as_aux_lemma =>
              go_wp2_with fail
              go_meet
              exact ⟨j,m,rfl,hj,rfl,hm,rfl⟩
    case rest =>
    obtain ⟨j,m,rfl,hj,rfl,hm,rfl⟩:=hcut
    go_upto_block 2 with fail
    go_cut [3,4] from 10 (fun i v W=>∃ (j m:Nat),i=.int .i64 (j:Int)∧v=.int .u64 (m:Int)∧m < 18446744073709551616∧W=wc)
    case first =>
      as_aux_lemma =>
        go_wp2_with fail
        go_loopw [3,4] (fun i v W=>∃ (j m:Nat),i=.int .i64 (j:Int)∧j≤20∧v=.int .u64 (m:Int)∧m < 18446744073709551616∧W=wc) (fun i _ _=>21 - (intOf i).toNat)
        case atStart=>exact ⟨j,m,rfl,by omega,rfl,hm,rfl⟩
        case round =>
          obtain ⟨j,m,rfl,hj,rfl,hm,rfl⟩:=hrel
          by_cases hjd:(j:Int) < dp
          · as_aux_lemma =>
              go_wp2_with fail
              obtain ⟨v,hv,hw⟩:=wrapU ((m:Int)*10)
              rw [hw]
              exact ⟨⟨j+1,v,by go_num,by omega,rfl,hv,True.intro⟩,by simp [intOf];omega⟩
          · as_aux_lemma =>
              go_wp2_with fail
              go_meet
              exact ⟨j,m,rfl,rfl,hm,rfl⟩
    case rest =>
    obtain ⟨j,m,rfl,rfl,hm,rfl⟩:=hcut
    go_wp2_with fail
    refine (HU.out _).mono ?_
    rintro e w' ⟨⟨b,rfl⟩,rfl⟩
    cases b
    · as_aux_lemma =>
        go_wp2_with fail
        go_ret
        exact ⟨⟨_,rfl,hm⟩,rfl⟩
    · as_aux_lemma =>
        go_wp2_with fail
        go_ret
        obtain ⟨v,hv,hw⟩:=wrapU ((m:Int)+1)
        exact ⟨⟨v,congrArg (fun x=>Ending.returned (.int .u64 x)) hw,hv⟩,rfl⟩
end Go.Proofs.YtifapjammoahgaaGreatDoor.Rl
/- underscoreOK AT EVERY TEXT: it answers something. Own work of the verifier. -/
set_option maxRecDepth 100000
set_option maxHeartbeats 4000000
namespace Go.Proofs.YtifapjammoahgaaGreatDoor.Rl
open Go.RowKit
theorem tail_bytes' (c:UInt8) (r:List UInt8):(ByteArray.mk (c::r).toArray).extract 1 (r.length+1)=⟨r.toArray⟩:=by
  apply ByteArray.ext
  rw [ByteArray.data_extract]
  simp
theorem bool_or (b:Bool):b=true∨b=false:=by cases b <;> simp
theorem under_some (l:List UInt8) (hl:l.length≤25) (w:World) :
    Calls Tryz.prog 172 #[.string ⟨l.toArray⟩] w fun e w'=>TellsB e∧w'=w:=by
  have HL:Hid _:=fun (x:Int) (W:World)=>Tryz.internal_strconv_lower x W
  go_enter Tryz.func172,Tryz.ntmps172
  go_upto_region 3 with fail
  go_cut [18] from 6 (fun v W=>∃ b:Bool,v=.bool b∧(b=true→1≤l.length)∧W=w)
  case first =>
    cases l with
    | nil =>
      as_aux_lemma =>
        go_wp2_with fail
        go_meet
        exact ⟨false,rfl,(fun h=>by cases h),rfl⟩
    | cons c r =>
      have hB:0 < (ByteArray.mk (c::r).toArray).size:=by show 0 < (c::r).toArray.size;simp
      have hr:r.length≤25:=by rw [List.length_cons] at hl;omega
      rcases bool_or ((((ByteArray.mk (c::r).toArray)[0]'hB).toNat:Int) == 45) with t45 | t45
      · as_aux_lemma =>
          go_wp2_with fail
          go_meet
          exact ⟨true,rfl,(fun _=>by simp),rfl⟩
      · as_aux_lemma =>
          go_wp2_with fail
          go_meet
          exact ⟨_,rfl,(fun _=>by simp),rfl⟩
  case rest =>
  obtain ⟨b,rfl,hb,rfl⟩:=hcut
  go_upto_if 18 with fail
  go_cut [0] from 6 (fun v W=>∃ l':List UInt8,v=.string ⟨l'.toArray⟩∧l'.length≤25∧W=wc)
  case first =>
    as_aux_lemma =>
      cases b
      · go_wp2_with fail
        go_meet
        exact ⟨l,rfl,hl,rfl⟩
      · cases l with
        | nil=>exact absurd (hb rfl) (by simp)
        | cons c r =>
          have hr:r.length≤25:=by rw [List.length_cons] at hl;omega
          have ht:=tail_bytes' c r
          go_wp2_with fail
          go_meet
          exact ⟨r,rfl,hr,rfl⟩
  case rest =>
  clear hb hl
  obtain ⟨l,rfl,hl,rfl⟩:=hcut
  go_upto_region 6 with fail
  go_cut [46] from 6 (fun v W=>∃ b:Bool,v=.bool b∧(b=true→2≤l.length)∧W=wc)
  case first =>
    by_cases h2:2≤l.length
    · have h2':(2:Int)≤(l.length:Int):=by omega
      have hB0:0 < (ByteArray.mk l.toArray).size:=by show 0 < l.toArray.size;simp;omega
      have hB1:1 < (ByteArray.mk l.toArray).size:=by show 1 < l.toArray.size;simp;omega
      have hl1:(1:Int) < (l.length:Int):=by omega
      have hl0:(0:Int) < (l.length:Int):=by omega
      have hne:¬ l=[]:=fun h=>by subst h;simp at h2
      rcases bool_or ((((ByteArray.mk l.toArray)[0]'hB0).toNat:Int) == 48) with t48 | t48
      · rcases bool_or (bits .or .u8 (((ByteArray.mk l.toArray)[1]'hB1).toNat:Int) 32 == 98) with t1 | t1
        · as_aux_lemma =>
            go_wp2_with (first
              | (go_at_call 143;refine (HL.out _ _).mono ?_;rintro e w' ⟨rfl,rfl⟩)
              | fail)
            go_meet
            exact ⟨_,rfl,(fun _=>h2),rfl⟩
        · rcases bool_or (bits .or .u8 (((ByteArray.mk l.toArray)[1]'hB1).toNat:Int) 32 == 111) with t2 | t2
          · as_aux_lemma =>
              go_wp2_with (first
                | (go_at_call 143;refine (HL.out _ _).mono ?_;rintro e w' ⟨rfl,rfl⟩)
                | fail)
              go_meet
              exact ⟨_,rfl,(fun _=>h2),rfl⟩
          · as_aux_lemma =>
              go_wp2_with (first
                | (go_at_call 143;refine (HL.out _ _).mono ?_;rintro e w' ⟨rfl,rfl⟩)
                | fail)
              go_meet
              exact ⟨_,rfl,(fun _=>h2),rfl⟩
      · as_aux_lemma =>
          go_wp2_with fail
          go_meet
          exact ⟨_,rfl,(fun _=>h2),rfl⟩
    · have h2':¬ (2:Int)≤(l.length:Int):=by omega
      as_aux_lemma =>
        go_wp2_with fail
        go_meet
        exact ⟨false,rfl,(fun h=>by cases h),rfl⟩
  case rest =>
  obtain ⟨b,rfl,hb2,rfl⟩:=hcut
  go_upto_if 46 with fail
  go_cut [3,4,5] from 6 (fun v i x W=>∃ (n:Int) (k:Nat) (hx:Bool),v=.int .i32 n∧i=.int .i64 (k:Int)∧k≤l.length∧x=.bool hx∧W=wc)
  case first =>
    cases b
    · as_aux_lemma =>
        go_wp2_with fail
        go_meet
        exact ⟨_,0,_,rfl,rfl,by omega,rfl,rfl⟩
    · have h2:=hb2 rfl
      have hB1:1 < (ByteArray.mk l.toArray).size:=by show 1 < l.toArray.size;simp;omega
      have hl1:(1:Int) < (l.length:Int):=by omega
      as_aux_lemma =>
        go_wp2_with (first
          | (go_at_call 143;refine (HL.out _ _).mono ?_;rintro e w' ⟨rfl,rfl⟩)
          | fail)
        go_meet
        exact ⟨_,2,_,rfl,rfl,by omega,rfl,rfl⟩
  case rest =>
  clear hb2
  obtain ⟨n,k,hx,rfl,rfl,hk,rfl,rfl⟩:=hcut
  go_wp2_with fail
  go_loopw [3,4] (fun v i W=>∃ (n:Int) (k:Nat),v=.int .i32 n∧i=.int .i64 (k:Int)∧k≤l.length∧W=wc) (fun _ i _=>l.length - (intOf i).toNat)
  case atStart=>exact ⟨n,k,rfl,rfl,hk,rfl⟩
  case round =>
    clear hk
    obtain ⟨n,k,rfl,rfl,hk,rfl⟩:=hrel
    by_cases hlt:k < l.length
    · have hlt':(k:Int) < (l.length:Int):=by omega
      have hBk:k < (ByteArray.mk l.toArray).size:=by show k < l.toArray.size;simpa using hlt
      go_upto_region 12 with fail
      go_cut [83] from 51 to 91 (fun v W=>∃ b:Bool,v=.bool b∧W=wr)
      case first =>
        by_cases t48:(48:Int)≤(((ByteArray.mk l.toArray)[k]'hBk).toNat:Int)
        · by_cases t57:(((ByteArray.mk l.toArray)[k]'hBk).toNat:Int)≤57
          · as_aux_lemma =>
              go_wp2_with (first
                | (go_at_call 143;refine (HL.out _ _).mono ?_;rintro e w' ⟨rfl,rfl⟩)
                | fail)
              go_meet
              exact ⟨_,rfl,rfl⟩
          · cases hx
            · as_aux_lemma =>
                go_wp2_with (first
                  | (go_at_call 143;refine (HL.out _ _).mono ?_;rintro e w' ⟨rfl,rfl⟩)
                  | fail)
                go_meet
                exact ⟨_,rfl,rfl⟩
            · by_cases t97:(97:Int)≤bits .or .u8 (((ByteArray.mk l.toArray)[k]'hBk).toNat:Int) 32
              · by_cases t102:bits .or .u8 (((ByteArray.mk l.toArray)[k]'hBk).toNat:Int) 32≤102
                · as_aux_lemma =>
                    go_wp2_with (first
                      | (go_at_call 143;refine (HL.out _ _).mono ?_;rintro e w' ⟨rfl,rfl⟩)
                      | fail)
                    go_meet
                    exact ⟨_,rfl,rfl⟩
                · as_aux_lemma =>
                    go_wp2_with (first
                      | (go_at_call 143;refine (HL.out _ _).mono ?_;rintro e w' ⟨rfl,rfl⟩)
                      | fail)
                    go_meet
                    exact ⟨_,rfl,rfl⟩
              · as_aux_lemma =>
                  go_wp2_with (first
                    | (go_at_call 143;refine (HL.out _ _).mono ?_;rintro e w' ⟨rfl,rfl⟩)
                    | fail)
                  go_meet
                  exact ⟨_,rfl,rfl⟩
        · cases hx
          · as_aux_lemma =>
              go_wp2_with (first
                | (go_at_call 143;refine (HL.out _ _).mono ?_;rintro e w' ⟨rfl,rfl⟩)
                | fail)
              go_meet
              exact ⟨_,rfl,rfl⟩
          · by_cases t97:(97:Int)≤bits .or .u8 (((ByteArray.mk l.toArray)[k]'hBk).toNat:Int) 32
            · by_cases t102:bits .or .u8 (((ByteArray.mk l.toArray)[k]'hBk).toNat:Int) 32≤102
              · as_aux_lemma =>
                  go_wp2_with (first
                    | (go_at_call 143;refine (HL.out _ _).mono ?_;rintro e w' ⟨rfl,rfl⟩)
                    | fail)
                  go_meet
                  exact ⟨_,rfl,rfl⟩
              · as_aux_lemma =>
                  go_wp2_with (first
                    | (go_at_call 143;refine (HL.out _ _).mono ?_;rintro e w' ⟨rfl,rfl⟩)
                    | fail)
                  go_meet
                  exact ⟨_,rfl,rfl⟩
            · as_aux_lemma =>
                go_wp2_with (first
                  | (go_at_call 143;refine (HL.out _ _).mono ?_;rintro e w' ⟨rfl,rfl⟩)
                  | fail)
                go_meet
                exact ⟨_,rfl,rfl⟩
      case rest =>
      obtain ⟨b,rfl,rfl⟩:=hcut
      cases b
      · rcases bool_or ((((ByteArray.mk l.toArray)[k]'hBk).toNat:Int) == 95) with t95 | t95
        · rcases bool_or ((n:Int) != 48) with tn | tn
          · as_aux_lemma =>
              go_wp2_with fail
              go_ret
              exact ⟨⟨_,rfl⟩,rfl⟩
          · as_aux_lemma =>
              go_wp2_with fail
              exact ⟨⟨95,k+1,rfl,by go_num,by omega,True.intro⟩,by simp [intOf];omega⟩
        · rcases bool_or ((n:Int) == 95) with tn | tn
          · as_aux_lemma =>
              go_wp2_with fail
              go_ret
              exact ⟨⟨_,rfl⟩,rfl⟩
          · as_aux_lemma =>
              go_wp2_with fail
              exact ⟨⟨33,k+1,rfl,by go_num,by omega,True.intro⟩,by simp [intOf];omega⟩
      · as_aux_lemma =>
          go_wp2_with fail
          exact ⟨⟨48,k+1,rfl,by go_num,by omega,True.intro⟩,by simp [intOf];omega⟩
    · have hlt':¬ (k:Int) < (l.length:Int):=by omega
      as_aux_lemma =>
        go_wp2_with fail
        go_ret
        exact ⟨⟨_,rfl⟩,rfl⟩
end Go.Proofs.YtifapjammoahgaaGreatDoor.Rl
