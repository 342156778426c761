/- THE READER: value. Own work of the verifier. -/
import Derived.Test.YtifapjammoahgaaGreatDoorSBB
set_option maxRecDepth 100000
set_option maxHeartbeats 4000000
namespace Go.Proofs.YtifapjammoahgaaGreatDoor.La
open Go.RowKit
theorem ue_cases (q:Bool) (l:List UInt8):(∀ p,unE q l p=.error p)∨(∀ p,unE q l p=.ok ([],p))∨∃ (c:UInt8) (r:List UInt8) (d:Nat),r.length+d=l.length∧1≤d∧∀ p,unE q l p=(unE q r (p+d)).map fun t=>(c::t.1,t.2):=by
  cases l with
  | nil=>exact Or.inr (Or.inl fun p=>by rw [unE])
  | cons b r =>
    by_cases h1:b.toNat=10
    · left;intro p;rw [unE.eq_def];simp only;rw [if_pos h1]
    by_cases h2:b.toNat=92
    · cases r with
      | nil=>left;intro p;rw [unE.eq_def];simp only;rw [if_neg h1,if_pos h2]
      | cons c r' =>
        by_cases h3:c.toNat=110
        · right;right
          exact ⟨10,r',2,rfl,by omega,fun p=>by rw [unE.eq_def];simp only;rw [if_neg h1,if_pos h2,if_pos h3]⟩
        by_cases h4:c.toNat=92∨q=true∧c.toNat=34
        · right;right
          exact ⟨c,r',2,rfl,by omega,fun p=>by rw [unE.eq_def];simp only;rw [if_neg h1,if_pos h2,if_neg h3,if_pos h4]⟩
        · left;intro p;rw [unE.eq_def];simp only;rw [if_neg h1,if_pos h2,if_neg h3,if_neg h4]
    by_cases h3:q=true∧b.toNat=34
    · right;left;intro p;rw [unE.eq_def];simp only;rw [if_neg h1,if_neg h2,if_pos h3]
    · right;right
      exact ⟨b,r,1,rfl,by omega,fun p=>by rw [unE.eq_def];simp only;rw [if_neg h1,if_neg h2,if_neg h3]⟩
theorem ue_all (q:Bool):∀ (n:Nat) (l:List UInt8),l.length=n→∀ p,(∃ k,p≤k∧k≤p+l.length∧∀ d,unE q l (p+d)=.error (k+d))∨(∃ t k,p≤k∧k≤p+l.length∧t.length≤l.length∧∀ d,unE q l (p+d)=.ok (t,k+d)):=by
  intro n
  induction n using Nat.strongRecOn with
  | ind n ih =>
    intro l hl p
    rcases ue_cases q l with h | h | ⟨c,r,d,h1,h2,h3⟩
    · exact Or.inl ⟨p,Nat.le_refl _,by omega,fun d=>h _⟩
    · exact Or.inr ⟨[],p,Nat.le_refl _,by omega,by simp,fun d=>h _⟩
    · rcases ih r.length (by omega) r rfl (p+d) with ⟨k,a1,a2,a3⟩ | ⟨t,k,a1,a2,a3,a4⟩
      · exact Or.inl ⟨k,by omega,by omega,fun e=>by rw [h3,show p+e+d=p+d+e from by omega,a3 e];rfl⟩
      · exact Or.inr ⟨c::t,k,by omega,by omega,by rw [List.length_cons];omega,fun e=>by rw [h3,show p+e+d=p+d+e from by omega,a4 e];rfl⟩
theorem pre_one (l:List UInt8) (k:Nat) (c:UInt8):preB (l.drop k) [c]=decide (k < l.length∧(l.getD k 0).toNat=c.toNat):=by
  unfold preB
  by_cases h:k < l.length
  · rw [List.drop_eq_getElem_cons h,get_at l k h]
    simp only [List.length_cons,List.length_nil,List.take_succ_cons,List.take_zero]
    rw [Bool.eq_iff_iff]
    simp only [Bool.and_eq_true,decide_eq_true_eq,beq_iff_eq,List.cons.injEq,and_true]
    constructor
    · rintro ⟨_,e⟩;exact ⟨h,by rw [e]⟩
    · rintro ⟨_,e⟩;exact ⟨by omega,UInt8.toNat_inj.1 e⟩
  · have hn:¬ (k < l.length∧(l.getD k 0).toNat=c.toNat):=by omega
    have hd:l.drop k=[]:=List.drop_eq_nil_of_le (by omega)
    rw [hd,decide_eq_false hn]
    rfl
theorem val_un (l:List UInt8):∀ n i,l.length - i=n→i≤l.length→valR (l.drop i) i=match unE true (l.drop i) i with
    | .error k=>.error (5,k)
    | .ok (t,k)=>if preB (l.drop k) [34] then .ok (t,k+1) else .error (5,k):=by
  intro n
  induction n using Nat.strongRecOn with
  | ind n ih =>
    intro i hn hi
    by_cases h:i < l.length
    · by_cases h34:l[i].toNat=34
      · rw [val_quote l i h h34,ue_quote true l i h ⟨rfl,h34⟩]
        simp only
        rw [pre_one,decide_eq_true ⟨h,by rw [get_at l i h];exact h34⟩]
        rfl
      by_cases h10:l[i].toNat=10
      · rw [val_ten l i h h10,ue_ten true l i h h10]
      by_cases h92:l[i].toNat=92
      · rw [ue_back true l i h h92]
        by_cases k:i+1 < l.length
        · have e1:=ih (l.length - (i+2)) (by omega) (i+2) rfl (by omega)
          rw [val_two l i k h92,List.drop_eq_getElem_cons k]
          simp only [escP]
          by_cases c110:l[i+1].toNat=110
          · rw [if_neg (by omega),if_pos c110,if_pos c110]
            simp only
            rw [e1]
            cases unE true (l.drop (i+2)) (i+2) with
            | error e=>rfl
            | ok t =>
              obtain ⟨t,k⟩:=t
              by_cases hb:preB (l.drop k) [34]=true <;> simp [Except.map,hb]
          · by_cases c2:l[i+1].toNat=92∨l[i+1].toNat=34
            · have c2':l[i+1].toNat=92∨True∧l[i+1].toNat=34:=by simpa using c2
              rw [if_pos c2,if_neg c110,if_pos c2']
              simp only
              rw [e1]
              cases unE true (l.drop (i+2)) (i+2) with
              | error e=>rfl
              | ok t =>
                obtain ⟨t,k⟩:=t
                by_cases hb:preB (l.drop k) [34]=true <;> simp [Except.map,hb]
            · have c2':¬ (l[i+1].toNat=92∨True∧l[i+1].toNat=34):=by simpa using c2
              rw [if_neg c2,if_neg c110,if_neg c110,if_neg c2']
        · rw [val_last l i h h92 k,List.drop_eq_nil_of_le (by omega)]
          rfl
      · have e1:=ih (l.length - (i+1)) (by omega) (i+1) rfl (by omega)
        rw [val_low l i h h34 h10 h92,ue_low true l i h h10 h92 (by simp [h34]),e1]
        cases unE true (l.drop (i+1)) (i+1) with
        | error e=>rfl
        | ok t =>
          obtain ⟨t,k⟩:=t
          by_cases hb:preB (l.drop k) [34]=true <;> simp [Except.map,hb]
    · rw [val_end l i h,ue_end true l i h]
      simp only
      rw [pre_one,decide_eq_false (by omega)]
      rfl
def TellsW (l:List UInt8) (p:Nat) (e:Ending) (j:Nat):Prop :=
  (∃ k,valR (l.drop p) p=.error (5,k)∧j=k∧e=.returned (.tuple #[.string ⟨#[]⟩,.int .i64 5])) ∨
  (∃ t k,valR (l.drop p) p=.ok (t,k)∧(txE t≠0∧j=p∧e=.returned (.tuple #[.string ⟨#[]⟩,.int .i64 (txE t)])∨txE t=0∧j=k∧e=.returned (.tuple #[.string ⟨t.toArray⟩,.int .i64 0])))
theorem cvalue_any (g p:Nat) (l:List UInt8) (hp:p≤l.length) (hl:l.length≤140737488355328) (w:World) (hr:RdAt w g l p) :
    Calls Tryz.prog 193 #[.pointer (some ⟨g,0,none⟩)] w fun r w'=>∃ j,TellsW l p r j∧Ex g w w'∧RdAt w' g l j:=by
  obtain ⟨c0,c1,c2⟩:=hr.cells
  have HR:HidC _ _ _ _ _:=rest_any g p l hp w hr
  have hdl:(l.drop p).length=l.length - p:=List.length_drop
  have HU:Hid (∀ W,Calls Tryz.prog 200 #[.string ⟨(l.drop p).toArray⟩,.string ⟨#[92,34]⟩] W fun r w'=>TellsE true (l.drop p) r∧Below W.heap.size W w'):=fun W=>unesc_any true (l.drop p) (by omega) W
  have HRd:Hid (RdAt w g l p):=hr
  have HA:=ue_all true _ (l.drop p) rfl 0
  have HV:=val_un l _ p rfl hp
  have HT:Hid (∀ (j:Nat),j≤l.length→∀ W,RdAt W g l j→Calls Tryz.prog 133 #[.pointer (some ⟨g,0,none⟩),.string ⟨#[34]⟩] W fun r w'=>r=.returned (.bool (preB (l.drop j) [34]))∧Ex g W w'∧RdAt w' g l (if preB (l.drop j) [34] then j+1 else j)):=fun j hj W h=>take_any g j l [34] hj (by omega) W h
  have HC:Hid (∀ t:List UInt8,t.length≤l.length→∀ W,Calls Tryz.prog 90 #[.string ⟨t.toArray⟩] W fun r w'=>r=.returned (.int .i64 (txE t))∧Below W.heap.size W w'):=fun t ht W=>ctext_any t (by omega) W
  clear hr
  rcases HA with ⟨k,a1,a2,a3⟩ | ⟨t,k,a1,a2,a3,a4⟩
  · have hu:unE true (l.drop p) 0=.error k:=a3 0
    have hv:valR (l.drop p) p=.error (5,k+p):=by
      rw [HV,show unE true (l.drop p) p=.error (k+p) from by have:=a3 p;rw [Nat.zero_add] at this;exact this]
    obtain ⟨j,hj⟩:∃ j,j=k+p:=⟨_,rfl⟩
    have hj1:(p:Int)+(k:Int)=(j:Int):=by omega
    have hj2:j≤l.length:=by omega
    rw [← hj] at hv
    have HVV:Hid _:=hv
    have HUU:Hid _:=hu
    have hj3:(j:Int)≤140737488355328:=by omega
    clear HV hv hu a1 a2 a3 hj hdl HT HC
    as_aux_lemma =>
      go_enter Tryz.func193,Tryz.ntmps193
      go_wp2_with fail
      refine (HR.out).mono ?_
      rintro e w1 ⟨rfl,n,rfl⟩
      clear HR c0 c1 c2
      go_wp2_with fail
      refine (HU.out _).mono ?_
      rintro e w2 ⟨hT,hb⟩
      have hb0:Below w.heap.size w w2:=(below_drewN w n).trans (hb.mono (below_drewN w n).size)
      have hr2:RdAt w2 g l p:=RdAt.below HRd.out hb0
      obtain ⟨c0,c1,c2⟩:=hr2.cells
      have HR2:Hid _:=hr2
      clear HU hb hr2
      rcases hT with ⟨p',hp',rfl⟩ | ⟨t,p',hp',rfl⟩
      · have hpk:p'=k:=by rw [HUU.out] at hp';cases hp';rfl
        subst hpk
        clear hp' HUU
        go_wp2_with fail
        go_ret2
        exact ⟨j,Or.inl ⟨j,HVV.out,rfl,rfl⟩,(Ex.of hb0).set _ _,RdAt.set HR2.out j⟩
      · rw [HUU.out] at hp';cases hp'
  · have hu:unE true (l.drop p) 0=.ok (t,k):=a4 0
    have hv0:unE true (l.drop p) p=.ok (t,k+p):=by have:=a4 p;rw [Nat.zero_add] at this;exact this
    rw [hv0] at HV
    simp only at HV
    obtain ⟨j,hj⟩:∃ j,j=k+p:=⟨_,rfl⟩
    have hj1:(p:Int)+(k:Int)=(j:Int):=by omega
    have hj2:j≤l.length:=by omega
    rw [← hj] at HV
    have HUU:Hid _:=hu
    have hj3:(j:Int)≤140737488355328:=by omega
    have HT1:Hid _:=HT.out j hj2
    have HC1:Hid _:=HC.out t (by omega)
    have HVV:Hid _:=HV
    clear hv0 HV hu a1 a2 a3 a4 hj hdl HT HC
    generalize hbq:preB (l.drop j) [34]=bq at *
    cases bq
    · have HV1:Hid (valR (l.drop p) p=.error (5,j)):=by have:=HVV.out;rw [if_neg (by decide)] at this;exact this
      clear HVV HC1 hbq
      as_aux_lemma =>
        go_enter Tryz.func193,Tryz.ntmps193
        go_wp2_with fail
        refine (HR.out).mono ?_
        rintro e w1 ⟨rfl,n,rfl⟩
        clear HR c0 c1 c2
        go_wp2_with fail
        refine (HU.out _).mono ?_
        rintro e w2 ⟨hT,hb⟩
        have hb0:Below w.heap.size w w2:=(below_drewN w n).trans (hb.mono (below_drewN w n).size)
        have hr2:RdAt w2 g l p:=RdAt.below HRd.out hb0
        obtain ⟨c0,c1,c2⟩:=hr2.cells
        have HT2:HidC _ _ _ _ _:=HT1.out _ (hr2.set j)
        have HX:Hid (Ex g w (w2.setCell ⟨g,1,none⟩ (.int .i64 (j:Int)))):=(Ex.of hb0).set _ _
        clear HU hb hr2 HT1 hb0
        rcases hT with ⟨p',hp',rfl⟩ | ⟨t',p',hp',rfl⟩
        · rw [HUU.out] at hp';cases hp'
        · have hpk:t'=t∧p'=k:=by rw [HUU.out] at hp';cases hp';exact ⟨rfl,rfl⟩
          obtain ⟨rfl,rfl⟩:=hpk
          clear hp' HUU
          go_wp2_with fail
          refine (HT2.out).mono ?_
          rintro e w3 ⟨rfl,hx,hr⟩
          have HX3:Hid _:=HX.out.trans hx
          have HR3:Hid _:=hr
          clear HT2 HX hx hr c0 c1 c2
          go_wp2_with fail
          go_ret2
          exact ⟨j,Or.inl ⟨j,HV1.out,rfl,rfl⟩,HX3.out,HR3.out⟩
    · have HV1:Hid (valR (l.drop p) p=.ok (t,j+1)):=by have:=HVV.out;rw [if_pos rfl] at this;exact this
      clear HVV hbq
      generalize htz:txE t=tz at *
      have HTZ:Hid _:=htz
      clear htz
      by_cases e1:tz=0
      · subst e1
        as_aux_lemma =>
          go_enter Tryz.func193,Tryz.ntmps193
          go_wp2_with fail
          refine (HR.out).mono ?_
          rintro e w1 ⟨rfl,n,rfl⟩
          clear HR c0 c1 c2
          go_wp2_with fail
          refine (HU.out _).mono ?_
          rintro e w2 ⟨hT,hb⟩
          have hb0:Below w.heap.size w w2:=(below_drewN w n).trans (hb.mono (below_drewN w n).size)
          have hr2:RdAt w2 g l p:=RdAt.below HRd.out hb0
          obtain ⟨c0,c1,c2⟩:=hr2.cells
          have HT2:HidC _ _ _ _ _:=HT1.out _ (hr2.set j)
          have HX:Hid (Ex g w (w2.setCell ⟨g,1,none⟩ (.int .i64 (j:Int)))):=(Ex.of hb0).set _ _
          clear HU hb hr2 HT1 hb0
          rcases hT with ⟨p',hp',rfl⟩ | ⟨t',p',hp',rfl⟩
          · rw [HUU.out] at hp';cases hp'
          · have hpk:t'=t∧p'=k:=by rw [HUU.out] at hp';cases hp';exact ⟨rfl,rfl⟩
            obtain ⟨rfl,rfl⟩:=hpk
            clear hp' HUU
            go_wp2_with fail
            refine (HT2.out).mono ?_
            rintro e w3 ⟨rfl,hx,hr⟩
            have HX3:Hid (Ex g w w3):=HX.out.trans hx
            have HR3:Hid (RdAt w3 g l (j+1)):=hr
            clear HT2 HX hx hr c0 c1 c2
            go_wp2_with fail
            refine (HC1.out _).mono ?_
            rintro e w4 ⟨rfl,hb4⟩
            have HX4:Hid (Ex g w w4):=HX3.out.trans (Ex.of hb4)
            have HR4:Hid (RdAt w4 g l (j+1)):=RdAt.below HR3.out hb4
            clear HX3 HR3 HC1 hb4
            go_wp2_with fail
            go_ret2
            exact ⟨j+1,Or.inr ⟨_,_,HV1.out,Or.inr ⟨HTZ.out,rfl,rfl⟩⟩,HX4.out,HR4.out⟩
      · have e1':(tz != 0)=true:=by simpa using e1
        have HN:Hid (tz≠0):=e1
        clear e1
        as_aux_lemma =>
          go_enter Tryz.func193,Tryz.ntmps193
          go_wp2_with fail
          refine (HR.out).mono ?_
          rintro e w1 ⟨rfl,n,rfl⟩
          clear HR c0 c1 c2
          go_wp2_with fail
          refine (HU.out _).mono ?_
          rintro e w2 ⟨hT,hb⟩
          have hb0:Below w.heap.size w w2:=(below_drewN w n).trans (hb.mono (below_drewN w n).size)
          have hr2:RdAt w2 g l p:=RdAt.below HRd.out hb0
          obtain ⟨c0,c1,c2⟩:=hr2.cells
          have HT2:HidC _ _ _ _ _:=HT1.out _ (hr2.set j)
          have HX:Hid (Ex g w (w2.setCell ⟨g,1,none⟩ (.int .i64 (j:Int)))):=(Ex.of hb0).set _ _
          clear HU hb hr2 HT1 hb0
          rcases hT with ⟨p',hp',rfl⟩ | ⟨t',p',hp',rfl⟩
          · rw [HUU.out] at hp';cases hp'
          · have hpk:t'=t∧p'=k:=by rw [HUU.out] at hp';cases hp';exact ⟨rfl,rfl⟩
            obtain ⟨rfl,rfl⟩:=hpk
            clear hp' HUU
            go_wp2_with fail
            refine (HT2.out).mono ?_
            rintro e w3 ⟨rfl,hx,hr⟩
            have HX3:Hid (Ex g w w3):=HX.out.trans hx
            have HR3:Hid (RdAt w3 g l (j+1)):=hr
            clear HT2 HX hx hr c0 c1 c2
            go_wp2_with fail
            refine (HC1.out _).mono ?_
            rintro e w4 ⟨rfl,hb4⟩
            have HX4:Hid (Ex g w w4):=HX3.out.trans (Ex.of hb4)
            have HR4:Hid (RdAt w4 g l (j+1)):=RdAt.below HR3.out hb4
            obtain ⟨c0,c1,c2⟩:=RdAt.cells HR4.out
            clear HX3 HR3 HC1 hb4
            go_wp2_with fail
            go_ret2
            exact ⟨p,Or.inr ⟨_,_,HV1.out,Or.inl ⟨fun h=>HN.out (HTZ.out.symm.trans h),rfl,congrArg (fun z:Int=>Ending.returned (Value.tuple #[.string ⟨#[]⟩,.int .i64 z])) HTZ.out.symm⟩⟩,HX4.out.set _ _,RdAt.set HR4.out p⟩
end Go.Proofs.YtifapjammoahgaaGreatDoor.La
/- THE READER: label. Own work of the verifier. -/
set_option maxRecDepth 100000
set_option maxHeartbeats 8000000
namespace Go.Proofs.YtifapjammoahgaaGreatDoor.La
open Go.RowKit
theorem clone_any (l:List UInt8) (hl:l.length≤281474976710656) (w:World) :
    Calls Tryz.prog 131 #[.string ⟨l.toArray⟩] w fun r w'=>r=.returned (.string ⟨l.toArray⟩)∧Below w.heap.size w w':=by
  have HC:HidC _ _ _ _ _:=Tryz.stringslite_Clone ⟨l.toArray⟩ w (by show l.toArray.size≤_;rw [List.size_toArray];exact hl)
  go_enter Tryz.func131,Tryz.ntmps131
  go_wp2_with fail
  refine (HC.out).mono ?_
  rintro e w1 ⟨rfl,hb⟩
  clear HC
  go_wp2_with fail
  go_ret
  exact ⟨rfl,hb⟩
theorem pre_get (l:List UInt8) (k:Nat) (c:UInt8) (hc:c.toNat≠0):preB (l.drop k) [c]=decide ((l.getD k 0).toNat=c.toNat):=by
  rw [pre_one]
  by_cases h:k < l.length
  · rw [decide_eq_decide]
    exact ⟨fun e=>e.2,fun e=>⟨h,e⟩⟩
  · rw [decide_eq_false (by omega),decide_eq_false]
    rw [List.getD_eq_getElem?_getD,List.getElem?_eq_none (by omega)]
    intro e
    exact hc e.symm
theorem val_far (l:List UInt8) (p k:Nat) (t:List UInt8) (hp:p≤l.length) (h:valR (l.drop p) p=.ok (t,k)):p≤k∧k≤l.length∧t.length≤l.length:=by
  rw [val_un l _ p rfl hp] at h
  have hd:(l.drop p).length=l.length - p:=List.length_drop
  rcases ue_all true _ (l.drop p) rfl p with ⟨j,a1,a2,a3⟩ | ⟨s,j,a1,a2,a3,a4⟩
  · have:=a3 0
    rw [Nat.add_zero] at this
    rw [this] at h
    cases h
  · have:=a4 0
    rw [Nat.add_zero] at this
    rw [this] at h
    simp only [Nat.add_zero] at h
    split at h
    · rename_i hq
      rw [pre_one,decide_eq_true_eq] at hq
      cases h
      exact ⟨by omega,by omega,by omega⟩
    · cases h
theorem val_err (l:List UInt8) (p k:Nat) (z:Int) (hp:p≤l.length) (h:valR (l.drop p) p=.error (z,k)):z=5:=by
  rw [val_un l _ p rfl hp] at h
  cases hu:unE true (l.drop p) p with
  | error e=>rw [hu] at h;cases h;rfl
  | ok t =>
    obtain ⟨s,j⟩:=t
    rw [hu] at h
    simp only at h
    split at h
    · cases h
    · cases h;rfl
def TellsL (l:List UInt8) (p:Nat) (L:List Lb) (e:Ending) (j:Nat):Prop :=
  (∃ z x y,oneR l p L=.error (z,j)∧z≠0∧e=.returned (.tuple #[.agg #[.string x,.string y],.int .i64 z])) ∨
  (∃ a c:List UInt8,oneR l p L=.ok ((a,c),j)∧j≤l.length∧e=.returned (.tuple #[.agg #[.string ⟨a.toArray⟩,.string ⟨c.toArray⟩],.int .i64 0]))
theorem results_ct {fn:Func} {p u:Tmp} {ty:TypeId} (h:fn.results=#[.cell p ty,.tmp u]) (tmps:Array Value) (P:Program) (w:World) :
    (results fn tmps).run P w =
      ((asAddr (tmps.getD p undef)).run P w).andThen fun a w₁=>((loadVar ty a).run P w₁).andThen fun v w₂=>.ok (.tuple #[v,tmps.getD u undef]) w₂:=by
  simp only [results,h]
  simp [Sem.run_bind,Result.andThen]
theorem ret_lab (tmps:Array Value) (g:Nat) (x y:ByteArray) (w:World) (hp:tmps.getD 4 undef=.pointer (some ⟨g,0,none⟩)) (c0:w.cell? ⟨g,0,none⟩=some (.string x)) (c1:w.cell? ⟨g,1,none⟩=some (.string y)) :
    (results Tryz.f170 tmps).run Tryz.prog w=.ok (.tuple #[.agg #[.string x,.string y],tmps.getD 5 undef]) w:=by
  rw [results_ct (p:=4) (u:=5) (ty:=74) rfl,hp]
  simp [asAddr,load_label g x y w c0 c1,Result.andThen]
structure LS (w:World) (g h:Nat) (l:List UInt8) (j:Nat) (W:World):Prop where
  ex:Ex g w W
  rd:RdAt W g l j
  lb:W.heap[h]? =some (.cells #[.string ⟨#[]⟩,.string ⟨#[]⟩] 74)
  hg:g < h
  hh:w.heap.size≤h
theorem LS.lt {w:World} {g h j:Nat} {l:List UInt8} {W:World} (s:LS w g h l j W):h < W.heap.size:=(Array.getElem?_eq_some_iff.1 s.lb).1
theorem LS.next {w:World} {g h j j':Nat} {l:List UInt8} {W W1:World} (s:LS w g h l j W) (hx:Ex g W W1) (hr:RdAt W1 g l j'):LS w g h l j' W1 :=
  ⟨s.ex.trans hx,hr,(hx.block h s.lt (by have:=s.hg;omega)).trans s.lb,s.hg,s.hh⟩
theorem LS.below {w:World} {g h j:Nat} {l:List UInt8} {W W1:World} (s:LS w g h l j W) (hb:Below W.heap.size W W1):LS w g h l j W1:=s.next (Ex.of hb) (s.rd.below hb)
theorem LS.drewN {w:World} {g h j:Nat} {l:List UInt8} {W:World} (s:LS w g h l j W) (n:Nat):LS w g h l j (W.drewN n):=s.below (below_drewN W n)
theorem LS.set {w:World} {g h j:Nat} {l:List UInt8} {W:World} (s:LS w g h l j W) (r:Nat):LS w g h l r (W.setCell ⟨g,1,none⟩ (.int .i64 (r:Int))):=s.next ((Ex.refl g W).set _ _) (s.rd.set r)
theorem LS.new (w:World) (g j:Nat) (l:List UInt8) (hr:RdAt w g l j):LS w g w.heap.size l j (w.alloc (.cells #[.string ⟨#[]⟩,.string ⟨#[]⟩] 74)) :=
  ⟨Ex.of (bel1 w _),hr.below (bel1 w _),by show (w.heap.push _)[w.heap.size]? =_;simp,hr.lt,Nat.le_refl _⟩
theorem LS.cells {w:World} {g h j:Nat} {l:List UInt8} {W:World} (s:LS w g h l j W):W.cell? ⟨h,0,none⟩=some (.string ⟨#[]⟩)∧W.cell? ⟨h,1,none⟩=some (.string ⟨#[]⟩)∧W.frozen? ⟨h,0,none⟩=false∧W.frozen? ⟨h,1,none⟩=false:=by
  have h':=s.lb
  refine ⟨?_,?_,?_,?_⟩ <;> simp [World.cell?,World.frozen?,h']
theorem Ex.put {g h:Nat} {w W:World} (s:Ex g w W) (hh:w.heap.size≤h) (o:Nat) (u:Value):Ex g w (W.setCell ⟨h,o,none⟩ u) :=
  ⟨s.os,s.tape,s.output,by have:=s.size;simpa [World.setCell] using this,fun k hk hg=>by rw [Below.heap_setCell _ _ _ _ (by show k≠h;omega)];exact s.block k hk hg⟩
theorem LS.fin {w:World} {g h j:Nat} {l:List UInt8} {W:World} (s:LS w g h l j W) (x y:Value):Ex g w ((W.setCell ⟨h,0,none⟩ x).setCell ⟨h,1,none⟩ y)∧RdAt ((W.setCell ⟨h,0,none⟩ x).setCell ⟨h,1,none⟩ y) g l j:=by
  have hne:g≠h:=by have:=s.hg;omega
  refine ⟨(s.ex.put s.hh _ _).put s.hh _ _,?_⟩
  unfold RdAt
  rw [Below.heap_setCell _ _ _ _ hne,Below.heap_setCell _ _ _ _ hne]
  exact s.rd
theorem clab_any (g p:Nat) (l:List UInt8) (hp:p≤l.length) (hl:l.length≤140737488355328) (ao:Option Addr) (b o cap:Nat) (L:List Lb) (hao:L≠[]→ao=some ⟨b,o,none⟩) (hlL:L.length≤9223372036854775807) (w:World) (hr:RdAt w g l p) (hL:RowL w b o L) :
    Calls Tryz.prog 170 #[.pointer (some ⟨g,0,none⟩),.slice ao L.length cap] w fun r w'=>∃ j,TellsL l p L r j∧Ex g w w'∧RdAt w' g l j:=by
  have HS0:Hid (LS w g w.heap.size l p (w.alloc (.cells #[.string ⟨#[]⟩,.string ⟨#[]⟩] 74))):=LS.new w g p l hr
  obtain ⟨n,hn⟩:∃ n,n=rowN false (l.drop p):=⟨_,rfl⟩
  have hnl:=rowN_le false (l.drop p)
  rw [← hn,List.length_drop] at hnl
  obtain ⟨nm,hnm⟩:∃ nm,nm=nmAt l p:=⟨_,rfl⟩
  have hnm2:nm=(l.drop p).take n:=by rw [hnm,hn];rfl
  have hnml:nm.length=n:=by rw [hnm2,List.length_take,List.length_drop];omega
  have HR:Hid (∀ W,RdAt W g l p→Calls Tryz.prog 132 #[.pointer (some ⟨g,0,none⟩)] W fun r w'=>r=.returned (.string ⟨(l.drop p).toArray⟩)∧∃ n,w'=W.drewN n):=fun W h=>rest_any g p l hp W h
  have HW:Hid (∀ W,Calls Tryz.prog 130 #[.string ⟨(l.drop p).toArray⟩,fv false] W fun r w'=>r=.returned (.string ⟨nm.toArray⟩)∧w'=W):=fun W=>by rw [hnm2,hn];exact crow_any (l.drop p) false (by rw [List.length_drop];omega) W
  have HN:Hid (∀ W,Calls Tryz.prog 126 #[.string ⟨nm.toArray⟩] W fun r w'=>r=.returned (.bool (lnameB nm))∧w'=W):=fun W=>clname_any nm (by omega) W
  have HP:Hid (∀ W,RowL W b o L→Calls Tryz.prog 127 #[.slice ao L.length cap,.string ⟨nm.toArray⟩] W fun r w'=>r=.returned (.int .i64 (plE L nm))∧w'=W):=fun W h=>place_any ao b o cap L hao hlL nm W h
  have HRow:Hid (RowL w b o L):=hL
  obtain ⟨p1,hp1⟩:∃ p1,p1=p+n:=⟨_,rfl⟩
  have hp1':(p:Int)+(nm.length:Int)=(p1:Int):=by omega
  have hp1l:p1≤l.length:=by omega
  have HT1:Hid (∀ W,RdAt W g l p1→Calls Tryz.prog 133 #[.pointer (some ⟨g,0,none⟩),.string ⟨#[61]⟩] W fun r w'=>r=.returned (.bool (preB (l.drop p1) [61]))∧Ex g W w'∧RdAt w' g l (if preB (l.drop p1) [61] then p1+1 else p1)):=fun W h=>take_any g p1 l [61] hp1l (by omega) W h
  have HT2:Hid (∀ W,p1+1≤l.length→RdAt W g l (p1+1)→Calls Tryz.prog 133 #[.pointer (some ⟨g,0,none⟩),.string ⟨#[34]⟩] W fun r w'=>r=.returned (.bool (preB (l.drop (p1+1)) [34]))∧Ex g W w'∧RdAt w' g l (if preB (l.drop (p1+1)) [34] then p1+1+1 else p1+1)):=fun W h0 h=>take_any g (p1+1) l [34] h0 (by omega) W h
  have HV:Hid (∀ W,p1+2≤l.length→RdAt W g l (p1+2)→Calls Tryz.prog 193 #[.pointer (some ⟨g,0,none⟩)] W fun r w'=>∃ j,TellsW l (p1+2) r j∧Ex g W w'∧RdAt w' g l j):=fun W h0 h=>cvalue_any g (p1+2) l h0 hl W h
  have HCl:Hid (∀ W,Calls Tryz.prog 131 #[.string ⟨nm.toArray⟩] W fun r w'=>r=.returned (.string ⟨nm.toArray⟩)∧Below W.heap.size W w'):=fun W=>clone_any nm (by omega) W
  have hO:oneR l p L=if L.length=16 then .error (3,p)
    else if lnameB nm=false then .error (9,p)
    else if plE L nm≠0 then .error (plE L nm,p)
    else if preB (l.drop p1) [61]=false then .error (5,p1)
    else if preB (l.drop (p1+1)) [34]=false then .error (5,p1+1)
    else match valR (l.drop (p1+2)) (p1+2) with
      | .error e=>.error e
      | .ok q=>if txE q.1≠0 then .error (txE q.1,p1+2) else .ok ((nm,q.1),q.2):=by
    unfold oneR
    rw [← hnm,← hn,← hp1]
    have e1:(L.length≠0∧bhE (L.getD (L.length - 1) ([],[])).1 nm≠0) ↔ plE L nm≠0:=by
      unfold plE
      by_cases h0:L.length=0
      · simp [h0]
      · simp [h0]
    have e2:preB (l.drop p1) [61]=false ↔ (l.getD p1 0).toNat≠61:=by rw [pre_get l p1 61 (by decide)];simp
    have e3:preB (l.drop (p1+1)) [34]=false ↔ (l.getD (p1+1) 0).toNat≠34:=by rw [pre_get l (p1+1) 34 (by decide)];simp
    have e4:¬ L.length=0→plE L nm=bhE (L.getD (L.length - 1) ([],[])).1 nm:=fun h0=>by unfold plE;rw [if_neg h0]
    by_cases a1:L.length=16
    · rw [if_pos a1,if_pos a1]
    rw [if_neg a1,if_neg a1]
    by_cases a2:lnameB nm=false
    · rw [if_pos a2,if_pos a2]
    rw [if_neg a2,if_neg a2]
    by_cases a3:plE L nm≠0
    · have h0:¬ L.length=0:=(e1.2 a3).1
      rw [if_pos (e1.2 a3),if_pos a3,e4 h0]
    rw [if_neg (fun h=>a3 (e1.1 h)),if_neg a3]
    by_cases a4:preB (l.drop p1) [61]=false
    · rw [if_pos (e2.1 a4),if_pos a4]
    rw [if_neg (fun h=>a4 (e2.2 h)),if_neg a4]
    by_cases a5:preB (l.drop (p1+1)) [34]=false
    · rw [if_pos (e3.1 a5),if_pos a5]
    rw [if_neg (fun h=>a5 (e3.2 h)),if_neg a5]
    cases valR (l.drop (p1+2)) (p1+2) <;> rfl
  have hq1:preB (l.drop p1) [61]=true→p1+1≤l.length:=fun h=>by rw [pre_one,decide_eq_true_eq] at h;omega
  have hq2:preB (l.drop (p1+1)) [34]=true→p1+2≤l.length:=fun h=>by rw [pre_one,decide_eq_true_eq] at h;omega
  clear hr hL hn hnl hnm hnm2 hnml hp1 hao hlL
  unfold fv at HW
  have hp1b:(p1:Int)≤140737488355328:=by omega
  by_cases g1:L.length=16
  · have g1':((L.length:Int) == 16)=true:=by rw [beq_iff_eq];omega
    rw [if_pos g1] at hO
    have HO:Hid _:=hO
    clear hO HR HW HN HP HRow HT1 HT2 HV HCl hq1 hq2 g1
    as_aux_lemma =>
      go_enter Tryz.func170,Tryz.ntmps170
      go_wp2_with fail
      (try simp only [Exit.inBlock,Exit.then]);refine bodyPost_ret (ret_lab _ w.heap.size _ _ _ rfl HS0.out.cells.1 HS0.out.cells.2.1) rfl ?_
      exact ⟨p,Or.inl ⟨3,_,_,HO.out,by decide,rfl⟩,HS0.out.ex,HS0.out.rd⟩
  have g1':((L.length:Int) == 16)=false:=by rw [beq_eq_false_iff_ne];omega
  rw [if_neg g1] at hO
  clear g1
  generalize lnameB nm=nb at *
  cases nb
  · rw [if_pos rfl] at hO
    have HO:Hid _:=hO
    clear hO HP HRow HT1 HT2 HV HCl hq1 hq2
    as_aux_lemma =>
      go_enter Tryz.func170,Tryz.ntmps170
      go_wp2_with fail
      refine (HR.out _ HS0.out.rd).mono ?_
      rintro e w1 ⟨rfl,n,rfl⟩
      have HS1:Hid _:=HS0.out.drewN n
      clear HR HS0
      generalize (w.alloc (.cells #[.string ⟨#[]⟩,.string ⟨#[]⟩] 74)).drewN n=W1 at *
      obtain ⟨c0,c1,f0,f1⟩:=HS1.out.cells
      go_wp2_with (first | (go_at_call 130;refine (HW.out _).mono ?_;rintro e1 w1 ⟨rfl,rfl⟩) | (go_at_call 126;refine (HN.out _).mono ?_;rintro e1 w1 ⟨rfl,rfl⟩))
      (try simp only [Exit.inBlock,Exit.then]);refine bodyPost_ret (ret_lab _ w.heap.size _ _ _ rfl (two_set c0 c1).1 (two_set c0 c1).2) rfl ?_
      exact ⟨p,Or.inl ⟨9,_,_,HO.out,by decide,rfl⟩,HS1.out.fin _ _⟩
  rw [if_neg (by decide)] at hO
  generalize plE L nm=pz at *
  by_cases g3:pz=0
  · subst g3
    rw [if_neg (by decide)] at hO
    generalize hb1:preB (l.drop p1) [61]=b1 at *
    cases b1
    · rw [if_pos rfl] at hO
      have HO:Hid _:=hO
      clear hO HT2 HV HCl hq1 hq2 hb1
      as_aux_lemma =>
        go_enter Tryz.func170,Tryz.ntmps170
        go_wp2_with fail
        refine (HR.out _ HS0.out.rd).mono ?_
        rintro e w1 ⟨rfl,n,rfl⟩
        have HS1:Hid _:=HS0.out.drewN n
        have hrow:RowL ((w.alloc (.cells #[.string ⟨#[]⟩,.string ⟨#[]⟩] 74)).drewN n) b o L:=(RowL.below HRow.out (bel1 w _)).drew n
        have HP1:HidC _ _ _ _ _:=HP.out _ hrow
        clear HR HS0 HRow HP hrow
        generalize (w.alloc (.cells #[.string ⟨#[]⟩,.string ⟨#[]⟩] 74)).drewN n=W1 at *
        obtain ⟨_,r1,r2⟩:=HS1.out.rd.cells
        have HS2:Hid _:=HS1.out.set p1
        have HT3:HidC _ _ _ _ _:=HT1.out _ HS2.out.rd
        clear HT1 HS1
        go_wp2_with (first | (go_at_call 130;refine (HW.out _).mono ?_;rintro e1 w1 ⟨rfl,rfl⟩) | (go_at_call 126;refine (HN.out _).mono ?_;rintro e1 w1 ⟨rfl,rfl⟩) | (go_at_call 127;refine (HP1.out).mono ?_;rintro e1 w1 ⟨rfl,rfl⟩))
        refine (HT3.out).mono ?_
        rintro e w2 ⟨rfl,hx,hrd⟩
        have HS3:Hid _:=HS2.out.next hx hrd
        clear HT3 HS2 hx hrd r1 r2 HW HN HP1
        obtain ⟨c0,c1,f0,f1⟩:=HS3.out.cells
        go_wp2_with fail
        (try simp only [Exit.inBlock,Exit.then]);refine bodyPost_ret (ret_lab _ w.heap.size _ _ _ rfl (two_set c0 c1).1 (two_set c0 c1).2) rfl ?_
        exact ⟨p1,Or.inl ⟨5,_,_,HO.out,by decide,rfl⟩,HS3.out.fin _ _⟩
    · rw [if_neg (by decide)] at hO
      have hq1':=hq1 rfl
      generalize hb2:preB (l.drop (p1+1)) [34]=b2 at *
      cases b2
      · rw [if_pos rfl] at hO
        have HO:Hid _:=hO
        have HT4:Hid _:=fun W=>HT2.out W hq1'
        clear hO HT2 HV HCl hq1 hq2 hb1 hb2
        as_aux_lemma =>
          go_enter Tryz.func170,Tryz.ntmps170
          go_wp2_with fail
          refine (HR.out _ HS0.out.rd).mono ?_
          rintro e w1 ⟨rfl,n,rfl⟩
          have HS1:Hid _:=HS0.out.drewN n
          have hrow:RowL ((w.alloc (.cells #[.string ⟨#[]⟩,.string ⟨#[]⟩] 74)).drewN n) b o L:=(RowL.below HRow.out (bel1 w _)).drew n
          have HP1:HidC _ _ _ _ _:=HP.out _ hrow
          clear HR HS0 HRow HP hrow
          generalize (w.alloc (.cells #[.string ⟨#[]⟩,.string ⟨#[]⟩] 74)).drewN n=W1 at *
          obtain ⟨_,r1,r2⟩:=HS1.out.rd.cells
          have HS2:Hid _:=HS1.out.set p1
          have HT3:HidC _ _ _ _ _:=HT1.out _ HS2.out.rd
          clear HT1 HS1
          go_wp2_with (first | (go_at_call 130;refine (HW.out _).mono ?_;rintro e1 w1 ⟨rfl,rfl⟩) | (go_at_call 126;refine (HN.out _).mono ?_;rintro e1 w1 ⟨rfl,rfl⟩) | (go_at_call 127;refine (HP1.out).mono ?_;rintro e1 w1 ⟨rfl,rfl⟩))
          refine (HT3.out).mono ?_
          rintro e w2 ⟨rfl,hx,hrd⟩
          have HS3:Hid _:=HS2.out.next hx hrd
          clear HT3 HS2 hx hrd r1 r2 HW HN HP1
          have HT5:HidC _ _ _ _ _:=HT4.out _ HS3.out.rd
          clear HT4
          go_wp2_with fail
          refine (HT5.out).mono ?_
          rintro e w3 ⟨rfl,hx,hrd⟩
          have HS4:Hid _:=HS3.out.next hx hrd
          clear HS3 HT5 hx hrd
          obtain ⟨c0,c1,f0,f1⟩:=HS4.out.cells
          go_wp2_with fail
          (try simp only [Exit.inBlock,Exit.then]);refine bodyPost_ret (ret_lab _ w.heap.size _ _ _ rfl (two_set c0 c1).1 (two_set c0 c1).2) rfl ?_
          exact ⟨p1+1,Or.inl ⟨5,_,_,HO.out,by decide,rfl⟩,HS4.out.fin _ _⟩
      · rw [if_neg (by decide)] at hO
        have hq2':=hq2 rfl
        have HT4:Hid _:=fun W=>HT2.out W hq1'
        have HV1:Hid _:=fun W=>HV.out W hq2'
        have HO:Hid _:=hO
        have HE:Hid (∀ z k,valR (l.drop (p1+2)) (p1+2)=.error (z,k)→z=5):=fun z k h=>val_err l (p1+2) k z hq2' h
        have HF:Hid (∀ t k,valR (l.drop (p1+2)) (p1+2)=.ok (t,k)→k≤l.length):=fun t k h=>(val_far l (p1+2) k t hq2' h).2.1
        clear hO HT2 HV hq1 hq2 hb1 hb2
        as_aux_lemma =>
          go_enter Tryz.func170,Tryz.ntmps170
          go_wp2_with fail
          refine (HR.out _ HS0.out.rd).mono ?_
          rintro e w1 ⟨rfl,n,rfl⟩
          have HS1:Hid _:=HS0.out.drewN n
          have hrow:RowL ((w.alloc (.cells #[.string ⟨#[]⟩,.string ⟨#[]⟩] 74)).drewN n) b o L:=(RowL.below HRow.out (bel1 w _)).drew n
          have HP1:HidC _ _ _ _ _:=HP.out _ hrow
          clear HR HS0 HRow HP hrow
          generalize (w.alloc (.cells #[.string ⟨#[]⟩,.string ⟨#[]⟩] 74)).drewN n=W1 at *
          obtain ⟨_,r1,r2⟩:=HS1.out.rd.cells
          have HS2:Hid _:=HS1.out.set p1
          have HT3:HidC _ _ _ _ _:=HT1.out _ HS2.out.rd
          clear HT1 HS1
          go_wp2_with (first | (go_at_call 130;refine (HW.out _).mono ?_;rintro e1 w1 ⟨rfl,rfl⟩) | (go_at_call 126;refine (HN.out _).mono ?_;rintro e1 w1 ⟨rfl,rfl⟩) | (go_at_call 127;refine (HP1.out).mono ?_;rintro e1 w1 ⟨rfl,rfl⟩))
          refine (HT3.out).mono ?_
          rintro e w2 ⟨rfl,hx,hrd⟩
          have HS3:Hid _:=HS2.out.next hx hrd
          clear HT3 HS2 hx hrd r1 r2 HW HN HP1
          have HT5:HidC _ _ _ _ _:=HT4.out _ HS3.out.rd
          clear HT4
          go_wp2_with fail
          refine (HT5.out).mono ?_
          rintro e w3 ⟨rfl,hx,hrd⟩
          have HS4:Hid _:=HS3.out.next hx hrd
          have HV2:HidC _ _ _ _ _:=HV1.out _ HS4.out.rd
          clear HS3 HT5 hx hrd HV1
          go_wp2_with fail
          refine (HV2.out).mono ?_
          rintro e w4 ⟨j,hT,hx,hrd⟩
          have HS5:Hid _:=HS4.out.next hx hrd
          clear HS4 HV2 hx hrd
          rcases hT with ⟨k,hv,rfl,rfl⟩ | ⟨t,k,hv,⟨ht,rfl,rfl⟩ | ⟨ht,rfl,rfl⟩⟩
          · have HO1:Hid _:=HO.out
            have HOO:Hid (oneR l p L=.error (5,j)):=by show _=_;rw [HO.out,hv]
            clear HO HO1 hv
            go_wp2_with fail
            refine (HCl.out _).mono ?_
            rintro e w5 ⟨rfl,hb⟩
            have HS6:Hid _:=HS5.out.below hb
            clear HCl hb HS5
            obtain ⟨c0,c1,f0,f1⟩:=HS6.out.cells
            go_wp2_with fail
            (try simp only [Exit.inBlock,Exit.then]);refine bodyPost_ret (ret_lab _ w.heap.size _ _ _ rfl (two_set c0 c1).1 (two_set c0 c1).2) rfl ?_
            exact ⟨j,Or.inl ⟨5,_,_,HOO.out,by decide,rfl⟩,HS6.out.fin _ _⟩
          · have HOO:Hid (oneR l p L=.error (txE t,p1+2)):=by show _=_;rw [HO.out,hv];simp only;rw [if_pos ht]
            have HN:Hid _:=ht
            clear HO hv ht
            generalize txE t=tz at *
            go_wp2_with fail
            refine (HCl.out _).mono ?_
            rintro e w5 ⟨rfl,hb⟩
            have HS6:Hid _:=HS5.out.below hb
            clear HCl hb HS5
            obtain ⟨c0,c1,f0,f1⟩:=HS6.out.cells
            go_wp2_with fail
            (try simp only [Exit.inBlock,Exit.then]);refine bodyPost_ret (ret_lab _ w.heap.size _ _ _ rfl (two_set c0 c1).1 (two_set c0 c1).2) rfl ?_
            exact ⟨p1+2,Or.inl ⟨tz,_,_,HOO.out,HN.out,rfl⟩,HS6.out.fin _ _⟩
          · have HOO:Hid (oneR l p L=.ok ((nm,t),j)):=by show _=_;rw [HO.out,hv];simp only;rw [if_neg (by simp [ht])]
            have HFF:Hid _:=HF.out _ _ hv
            clear HO hv ht HF
            go_wp2_with fail
            refine (HCl.out _).mono ?_
            rintro e w5 ⟨rfl,hb⟩
            have HS6:Hid _:=HS5.out.below hb
            clear HCl hb HS5
            obtain ⟨c0,c1,f0,f1⟩:=HS6.out.cells
            go_wp2_with fail
            (try simp only [Exit.inBlock,Exit.then]);refine bodyPost_ret (ret_lab _ w.heap.size _ _ _ rfl (two_set c0 c1).1 (two_set c0 c1).2) rfl ?_
            exact ⟨j,Or.inr ⟨nm,t,HOO.out,HFF.out,rfl⟩,HS6.out.fin _ _⟩
  · rw [if_pos g3] at hO
    have HO:Hid _:=hO
    have HN3:Hid _:=g3
    have g3':(pz != 0)=true:=by simpa using g3
    clear hO HT1 HT2 HV HCl hq1 hq2 g3
    as_aux_lemma =>
      go_enter Tryz.func170,Tryz.ntmps170
      go_wp2_with fail
      refine (HR.out _ HS0.out.rd).mono ?_
      rintro e w1 ⟨rfl,n,rfl⟩
      have HS1:Hid _:=HS0.out.drewN n
      have hrow:RowL ((w.alloc (.cells #[.string ⟨#[]⟩,.string ⟨#[]⟩] 74)).drewN n) b o L:=(RowL.below HRow.out (bel1 w _)).drew n
      have HP1:HidC _ _ _ _ _:=HP.out _ hrow
      clear HR HS0 HRow HP hrow
      generalize (w.alloc (.cells #[.string ⟨#[]⟩,.string ⟨#[]⟩] 74)).drewN n=W1 at *
      obtain ⟨c0,c1,f0,f1⟩:=HS1.out.cells
      go_wp2_with (first | (go_at_call 130;refine (HW.out _).mono ?_;rintro e1 w1 ⟨rfl,rfl⟩) | (go_at_call 126;refine (HN.out _).mono ?_;rintro e1 w1 ⟨rfl,rfl⟩) | (go_at_call 127;refine (HP1.out).mono ?_;rintro e1 w1 ⟨rfl,rfl⟩))
      (try simp only [Exit.inBlock,Exit.then]);refine bodyPost_ret (ret_lab _ w.heap.size _ _ _ rfl (two_set c0 c1).1 (two_set c0 c1).2) rfl ?_
      exact ⟨p,Or.inl ⟨pz,_,_,HO.out,HN3.out,rfl⟩,HS1.out.fin _ _⟩
end Go.Proofs.YtifapjammoahgaaGreatDoor.La
