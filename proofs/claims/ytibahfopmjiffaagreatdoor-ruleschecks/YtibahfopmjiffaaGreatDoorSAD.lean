/- Utf, the document's: THE WALK; text. Own work of the verifier. -/
import Derived.Test.YtibahfopmjiffaaGreatDoorSAC
import Derived.Lib.Strings
import Derived.Sort.Walk0
import Derived.Maps.AppendAt
import Derived.Deep.AppendLies
import Derived.Laws.IdiomStrings
import Derived.OwnWalk
set_option maxRecDepth 100000
set_option maxHeartbeats 4000000
namespace Go.Proofs.YtibahfopmjiffaaGreatDoor.La
open Go.RowKit
def Low (k c:Nat):Prop:=(k=1→c < 32)∧(k=2→c < 2048)∧(k=3→c < 131072)∧(k=4→c < 8388608)∧c < 8388608
theorem utf_any (l:List UInt8) (hl:l.length≤4611686018427387904) (w:World) :
    Calls Tryz.prog 94 #[.string ⟨l.toArray⟩] w fun r w'=>r=.returned (.bool (utfB l))∧w'=w:=by
  have HT:Hid (∀ (k:Nat) (W:World),Calls Tryz.prog 130 #[.string ⟨l.toArray⟩,.int .i64 (k:Int)] W fun r w'=>r=.returned (.bool (tlAt l k))∧w'=W):=fun k W=>tail_any l k hl W
  obtain ⟨U,hU⟩:∃ U,U=utfB l:=⟨_,rfl⟩
  rw [← hU]
  have HU0:Hid (U=utfB (l.drop 0)):=hU
  clear hU
  go_enter Tryz.func94,Tryz.ntmps94
  go_wp2_with fail
  go_loopw [3] (fun a W=>∃ i:Nat,i≤l.length∧a=.int .i64 (i:Int)∧Hid (U=utfB (l.drop i))∧W=w) (fun a _=>l.length - (intOf a).toNat)
  case atStart=>exact ⟨0,by omega,rfl,HU0,rfl⟩
  case round =>
    obtain ⟨i,hi,rfl,HR,hw⟩:=hrel
    subst wr
    clear HU0
    by_cases hlt:i < l.length
    · have hlt':(i:Int) < (l.length:Int):=by omega
      have hB:i < (ByteArray.mk l.toArray).size:=by show i < l.toArray.size;simpa using hlt
      have hbe:((ByteArray.mk l.toArray)[i]'hB).toNat=l[i].toNat:=rfl
      have h256:((ByteArray.mk l.toArray)[i]'hB).toNat < 256:=UInt8.toNat_lt _
      by_cases c1:l[i].toNat < 128
      · have c1':(((ByteArray.mk l.toArray)[i]'hB).toNat:Int) < 128:=by rw [hbe];omega
        have HR':Hid (U=utfB (l.drop (i+1))):=HR.out.trans (utf_low l i hlt c1)
        clear HR c1 hbe HT
        as_aux_lemma =>
          go_wp2_with fail
          exact ⟨⟨i+1,by omega,by go_num,HR',trivial⟩,by simp [intOf];omega⟩
      have c1':¬ (((ByteArray.mk l.toArray)[i]'hB).toNat:Int) < 128:=by rw [hbe];omega
      cases hld:lead l[i].toNat with
      | none =>
        have HF:Hid (U=false):=HR.out.trans (utf_none l i hlt c1 hld)
        unfold lead at hld
        have d:l[i].toNat < 192∨248≤l[i].toNat:=by
          split at hld
          · cases hld
          · split at hld
            · cases hld
            · split at hld
              · cases hld
              · omega
        clear HR hld HT
        rcases d with d | d
        · have t1:¬ (192:Int)≤(((ByteArray.mk l.toArray)[i]'hB).toNat:Int):=by rw [hbe];omega
          have t2:¬ (224:Int)≤(((ByteArray.mk l.toArray)[i]'hB).toNat:Int):=by rw [hbe];omega
          have t3:¬ (240:Int)≤(((ByteArray.mk l.toArray)[i]'hB).toNat:Int):=by rw [hbe];omega
          clear hbe c1 d
          as_aux_lemma =>
            go_wp2_with fail
            go_ret
            exact ⟨congrArg (fun b=>Ending.returned (Value.bool b)) HF.out.symm,rfl⟩
        · have t1:(192:Int)≤(((ByteArray.mk l.toArray)[i]'hB).toNat:Int):=by rw [hbe];omega
          have t2:(224:Int)≤(((ByteArray.mk l.toArray)[i]'hB).toNat:Int):=by rw [hbe];omega
          have t3:(240:Int)≤(((ByteArray.mk l.toArray)[i]'hB).toNat:Int):=by rw [hbe];omega
          have t4:¬ (((ByteArray.mk l.toArray)[i]'hB).toNat:Int) < 224:=by rw [hbe];omega
          have t5:¬ (((ByteArray.mk l.toArray)[i]'hB).toNat:Int) < 240:=by rw [hbe];omega
          have t6:¬ (((ByteArray.mk l.toArray)[i]'hB).toNat:Int) < 248:=by rw [hbe];omega
          clear hbe c1 d
          as_aux_lemma =>
            go_wp2_with fail
            go_ret
            exact ⟨congrArg (fun b=>Ending.returned (Value.bool b)) HF.out.symm,rfl⟩
      | some q =>
        obtain ⟨n,c0⟩:=q
        have HM:Hid (U=match cont n c0 (l.drop (i+1)) with | none=>false | some c=>fine n c && utfB (l.drop (i+(n+1)))):=HR.out.trans (utf_lead l i n c0 hlt c1 hld)
        unfold lead at hld
        have d:(n=1∧192≤l[i].toNat∧l[i].toNat < 224∧c0=l[i].toNat - 192)∨(n=2∧224≤l[i].toNat∧l[i].toNat < 240∧c0=l[i].toNat - 224)∨(n=3∧240≤l[i].toNat∧l[i].toNat < 248∧c0=l[i].toNat - 240):=by
          split at hld
          · have:=Prod.mk.inj (Option.some.inj hld);omega
          · split at hld
            · have:=Prod.mk.inj (Option.some.inj hld);omega
            · split at hld
              · have:=Prod.mk.inj (Option.some.inj hld);omega
              · cases hld
        clear HR hld
        have hc0:c0 < 32:=by omega
        have hn3:n≤3:=by omega
        have hn1:1≤n:=by omega
        rcases d with ⟨dn,d1,d2,d3⟩ | ⟨dn,d1,d2,d3⟩ | ⟨dn,d1,d2,d3⟩
        · subst dn
          have t1a:(192:Int)≤(((ByteArray.mk l.toArray)[i]'hB).toNat:Int):=by rw [hbe];omega
          have t1b:(((ByteArray.mk l.toArray)[i]'hB).toNat:Int) < 224:=by rw [hbe];omega
          have hc':(((ByteArray.mk l.toArray)[i]'hB).toNat:Int) - 192=(c0:Int):=by rw [hbe];omega
          have hi1:i+1≤l.length:=by omega
          clear hbe c1 d1 d2 d3 h256
          as_aux_lemma =>
          go_wp2_with fail
          go_loopw [4,6] (fun a b W=>∃ c k:Nat,a=.int .i64 (c:Int)∧b=.int .i64 (k:Int)∧1≤k∧k≤2∧i+k≤l.length∧Low k c∧Hid (cont 1 c0 (l.drop (i+1))=cont (2 - k) c (l.drop (i+k)))∧W=w) (fun _ b _=>2 - (intOf b).toNat)
          case atStart=>exact ⟨c0,1,rfl,rfl,by omega,by omega,hi1,⟨fun _=>by omega,(fun h=>by omega),(fun h=>by omega),(fun h=>by omega),by omega⟩,rfl,rfl⟩
          case round =>
          obtain ⟨c,k,rfl,rfl,k1,k2,kl,hlow,HC,hw⟩:=hrel
          subst wr
          unfold Low at hlow
          by_cases hk:k≤1
          · have hk':(k:Int)≤1:=by omega
            obtain ⟨j,hj⟩:∃ j,j=i+k:=⟨_,rfl⟩
            have hj':(i:Int)+(k:Int)=(j:Int):=by omega
            have HT1:Hid _:=HT.out j
            have hC:=HC.out
            rw [show 2 - k=(1 - k)+1 from by omega,← hj,cont_step l j (1 - k) c] at hC
            by_cases g:tlAt l j=true
            · rw [g] at HT1
              rw [if_pos g] at hC
              unfold tlAt tlB at g
              simp only [Bool.and_eq_true,decide_eq_true_eq] at g
              obtain ⟨jlt,jb1,jb2⟩:=g
              have jlt':(j:Int) < (l.length:Int):=by omega
              have hBj:j < (ByteArray.mk l.toArray).size:=by show j < l.toArray.size;simpa using jlt
              have hbj:((ByteArray.mk l.toArray)[j]'hBj).toNat=(l.getD j 0).toNat:=by rw [get_at l j jlt];rfl
              obtain ⟨c2,hc2⟩:∃ c2,c2=64*c+(l.getD j 0).toNat - 128:=⟨_,rfl⟩
              have hcc:64*(c:Int)+(((ByteArray.mk l.toArray)[j]'hBj).toNat:Int) - 128=(c2:Int):=by rw [hbj];omega
              rw [← hc2] at hC
              have HC':Hid (cont 1 c0 (l.drop (i+1))=cont (2 - (k+1)) c2 (l.drop (i+(k+1)))):=by
                show cont 1 c0 (l.drop (i+1))=_
                rw [hC,show 2 - (k+1)=1 - k from by omega,show i+(k+1)=j+1 from by omega]
              have hlow2:Low (k+1) c2:=by unfold Low;omega
              have kl2:i+(k+1)≤l.length:=by omega
              have k256:((ByteArray.mk l.toArray)[j]'hBj).toNat < 256:=UInt8.toNat_lt _
              have HLw:Hid _:=hlow2
              have hcs:c < 131072:=by omega
              clear hC HC hbj hc2 jb1 jb2 hj HM HT hlow hlow2
              as_aux_lemma =>
                go_wp2_with fail
                refine (HT1.out _).mono ?_
                rintro e w1 ⟨rfl,rfl⟩
                go_wp2_with fail
                exact ⟨⟨c2,k+1,rfl,by go_num,by omega,by omega,kl2,HLw.out,HC',trivial⟩,by simp [intOf];omega⟩
            · have g':tlAt l j=false:=by simpa using g
              rw [g'] at HT1
              rw [if_neg g] at hC
              have HF:Hid (U=false):=by
                show U=false
                rw [HM.out,hC]
              clear hC HC g g' hj HM HT hlow
              as_aux_lemma =>
                go_wp2_with fail
                refine (HT1.out _).mono ?_
                rintro e w1 ⟨rfl,rfl⟩
                go_wp2_with fail
                go_ret
                exact ⟨congrArg (fun b=>Ending.returned (Value.bool b)) HF.out.symm,rfl⟩
          · have hk':¬ (k:Int)≤1:=by omega
            have ek:k=2:=by omega
            have HU:Hid (U=(fine 1 c && utfB (l.drop (i+2)))):=by
              show U=_
              have hC:=HC.out
              rw [ek,Nat.sub_self,cont] at hC
              rw [HM.out,hC]
            have hcb:c < 8388608:=hlow.2.2.2.2
            have hcl:=hlow.2.1 ek
            have kli:i+2≤l.length:=by omega
            clear HM ek hlow
            by_cases e1:c < 128
            · have e1':(c:Int) < 128:=by omega
              have HF:Hid (U=false):=by
                show U=false
                rw [HU.out,show fine 1 c=false from decide_eq_false (by omega)]
                rfl
              clear HU HT HC
              as_aux_lemma =>
                go_wp2_with fail
                go_ret
                exact ⟨congrArg (fun b=>Ending.returned (Value.bool b)) HF.out.symm,rfl⟩
            · have e1':¬ (c:Int) < 128:=by omega
              have e4:¬ (1114111:Int) < (c:Int):=by omega
              have e5:¬ (55296:Int)≤(c:Int):=by omega
              have HF:Hid (U=utfB (l.drop (i+2))):=by
                show U=_
                rw [HU.out,show fine 1 c=true from decide_eq_true (by omega)]
                rfl
              clear HU HT HC
              as_aux_lemma =>
                go_wp2_with fail
                exact ⟨⟨i+2,by omega,congrArg (Value.int .i64) (by omega),HF,trivial⟩,by simp [intOf];omega⟩
        · subst dn
          have t1a:(192:Int)≤(((ByteArray.mk l.toArray)[i]'hB).toNat:Int):=by rw [hbe];omega
          have t1b:¬ (((ByteArray.mk l.toArray)[i]'hB).toNat:Int) < 224:=by rw [hbe];omega
          have t2a:(224:Int)≤(((ByteArray.mk l.toArray)[i]'hB).toNat:Int):=by rw [hbe];omega
          have t2b:(((ByteArray.mk l.toArray)[i]'hB).toNat:Int) < 240:=by rw [hbe];omega
          have hc':(((ByteArray.mk l.toArray)[i]'hB).toNat:Int) - 224=(c0:Int):=by rw [hbe];omega
          have hi1:i+1≤l.length:=by omega
          clear hbe c1 d1 d2 d3 h256
          as_aux_lemma =>
          go_wp2_with fail
          go_loopw [4,6] (fun a b W=>∃ c k:Nat,a=.int .i64 (c:Int)∧b=.int .i64 (k:Int)∧1≤k∧k≤3∧i+k≤l.length∧Low k c∧Hid (cont 2 c0 (l.drop (i+1))=cont (3 - k) c (l.drop (i+k)))∧W=w) (fun _ b _=>3 - (intOf b).toNat)
          case atStart=>exact ⟨c0,1,rfl,rfl,by omega,by omega,hi1,⟨fun _=>by omega,(fun h=>by omega),(fun h=>by omega),(fun h=>by omega),by omega⟩,rfl,rfl⟩
          case round =>
          obtain ⟨c,k,rfl,rfl,k1,k2,kl,hlow,HC,hw⟩:=hrel
          subst wr
          unfold Low at hlow
          by_cases hk:k≤2
          · have hk':(k:Int)≤2:=by omega
            obtain ⟨j,hj⟩:∃ j,j=i+k:=⟨_,rfl⟩
            have hj':(i:Int)+(k:Int)=(j:Int):=by omega
            have HT1:Hid _:=HT.out j
            have hC:=HC.out
            rw [show 3 - k=(2 - k)+1 from by omega,← hj,cont_step l j (2 - k) c] at hC
            by_cases g:tlAt l j=true
            · rw [g] at HT1
              rw [if_pos g] at hC
              unfold tlAt tlB at g
              simp only [Bool.and_eq_true,decide_eq_true_eq] at g
              obtain ⟨jlt,jb1,jb2⟩:=g
              have jlt':(j:Int) < (l.length:Int):=by omega
              have hBj:j < (ByteArray.mk l.toArray).size:=by show j < l.toArray.size;simpa using jlt
              have hbj:((ByteArray.mk l.toArray)[j]'hBj).toNat=(l.getD j 0).toNat:=by rw [get_at l j jlt];rfl
              obtain ⟨c2,hc2⟩:∃ c2,c2=64*c+(l.getD j 0).toNat - 128:=⟨_,rfl⟩
              have hcc:64*(c:Int)+(((ByteArray.mk l.toArray)[j]'hBj).toNat:Int) - 128=(c2:Int):=by rw [hbj];omega
              rw [← hc2] at hC
              have HC':Hid (cont 2 c0 (l.drop (i+1))=cont (3 - (k+1)) c2 (l.drop (i+(k+1)))):=by
                show cont 2 c0 (l.drop (i+1))=_
                rw [hC,show 3 - (k+1)=2 - k from by omega,show i+(k+1)=j+1 from by omega]
              have hlow2:Low (k+1) c2:=by unfold Low;omega
              have kl2:i+(k+1)≤l.length:=by omega
              have k256:((ByteArray.mk l.toArray)[j]'hBj).toNat < 256:=UInt8.toNat_lt _
              have HLw:Hid _:=hlow2
              have hcs:c < 131072:=by omega
              clear hC HC hbj hc2 jb1 jb2 hj HM HT hlow hlow2
              as_aux_lemma =>
                go_wp2_with fail
                refine (HT1.out _).mono ?_
                rintro e w1 ⟨rfl,rfl⟩
                go_wp2_with fail
                exact ⟨⟨c2,k+1,rfl,by go_num,by omega,by omega,kl2,HLw.out,HC',trivial⟩,by simp [intOf];omega⟩
            · have g':tlAt l j=false:=by simpa using g
              rw [g'] at HT1
              rw [if_neg g] at hC
              have HF:Hid (U=false):=by
                show U=false
                rw [HM.out,hC]
              clear hC HC g g' hj HM HT hlow
              as_aux_lemma =>
                go_wp2_with fail
                refine (HT1.out _).mono ?_
                rintro e w1 ⟨rfl,rfl⟩
                go_wp2_with fail
                go_ret
                exact ⟨congrArg (fun b=>Ending.returned (Value.bool b)) HF.out.symm,rfl⟩
          · have hk':¬ (k:Int)≤2:=by omega
            have ek:k=3:=by omega
            have HU:Hid (U=(fine 2 c && utfB (l.drop (i+3)))):=by
              show U=_
              have hC:=HC.out
              rw [ek,Nat.sub_self,cont] at hC
              rw [HM.out,hC]
            have hcb:c < 8388608:=hlow.2.2.2.2
            have hcl:=hlow.2.2.1 ek
            have kli:i+3≤l.length:=by omega
            clear HM ek hlow
            by_cases e1:c < 2048
            · have e1':(c:Int) < 2048:=by omega
              have HF:Hid (U=false):=by
                show U=false
                rw [HU.out,show fine 2 c=false from decide_eq_false (by omega)]
                rfl
              clear HU HT HC
              as_aux_lemma =>
                go_wp2_with fail
                go_ret
                exact ⟨congrArg (fun b=>Ending.returned (Value.bool b)) HF.out.symm,rfl⟩
            · have e1':¬ (c:Int) < 2048:=by omega
              have e4:¬ (1114111:Int) < (c:Int):=by omega
              by_cases e5:55296≤c
              · have e5':(55296:Int)≤(c:Int):=by omega
                by_cases e6:c≤57343
                · have e6':(c:Int)≤57343:=by omega
                  have HF:Hid (U=false):=by
                    show U=false
                    rw [HU.out,show fine 2 c=false from decide_eq_false (by omega)]
                    rfl
                  clear HU HT HC
                  as_aux_lemma =>
                    go_wp2_with fail
                    go_ret
                    exact ⟨congrArg (fun b=>Ending.returned (Value.bool b)) HF.out.symm,rfl⟩
                · have e6':¬ (c:Int)≤57343:=by omega
                  have HF:Hid (U=utfB (l.drop (i+3))):=by
                    show U=_
                    rw [HU.out,show fine 2 c=true from decide_eq_true (by omega)]
                    rfl
                  clear HU HT HC
                  as_aux_lemma =>
                    go_wp2_with fail
                    exact ⟨⟨i+3,by omega,congrArg (Value.int .i64) (by omega),HF,trivial⟩,by simp [intOf];omega⟩
              · have e5':¬ (55296:Int)≤(c:Int):=by omega
                have HF:Hid (U=utfB (l.drop (i+3))):=by
                  show U=_
                  rw [HU.out,show fine 2 c=true from decide_eq_true (by omega)]
                  rfl
                clear HU HT HC
                as_aux_lemma =>
                  go_wp2_with fail
                  exact ⟨⟨i+3,by omega,congrArg (Value.int .i64) (by omega),HF,trivial⟩,by simp [intOf];omega⟩
        · subst dn
          have t1a:(192:Int)≤(((ByteArray.mk l.toArray)[i]'hB).toNat:Int):=by rw [hbe];omega
          have t1b:¬ (((ByteArray.mk l.toArray)[i]'hB).toNat:Int) < 224:=by rw [hbe];omega
          have t2a:(224:Int)≤(((ByteArray.mk l.toArray)[i]'hB).toNat:Int):=by rw [hbe];omega
          have t2b:¬ (((ByteArray.mk l.toArray)[i]'hB).toNat:Int) < 240:=by rw [hbe];omega
          have t3a:(240:Int)≤(((ByteArray.mk l.toArray)[i]'hB).toNat:Int):=by rw [hbe];omega
          have t3b:(((ByteArray.mk l.toArray)[i]'hB).toNat:Int) < 248:=by rw [hbe];omega
          have hc':(((ByteArray.mk l.toArray)[i]'hB).toNat:Int) - 240=(c0:Int):=by rw [hbe];omega
          have hi1:i+1≤l.length:=by omega
          clear hbe c1 d1 d2 d3 h256
          as_aux_lemma =>
          go_wp2_with fail
          go_loopw [4,6] (fun a b W=>∃ c k:Nat,a=.int .i64 (c:Int)∧b=.int .i64 (k:Int)∧1≤k∧k≤4∧i+k≤l.length∧Low k c∧Hid (cont 3 c0 (l.drop (i+1))=cont (4 - k) c (l.drop (i+k)))∧W=w) (fun _ b _=>4 - (intOf b).toNat)
          case atStart=>exact ⟨c0,1,rfl,rfl,by omega,by omega,hi1,⟨fun _=>by omega,(fun h=>by omega),(fun h=>by omega),(fun h=>by omega),by omega⟩,rfl,rfl⟩
          case round =>
          obtain ⟨c,k,rfl,rfl,k1,k2,kl,hlow,HC,hw⟩:=hrel
          subst wr
          unfold Low at hlow
          by_cases hk:k≤3
          · have hk':(k:Int)≤3:=by omega
            obtain ⟨j,hj⟩:∃ j,j=i+k:=⟨_,rfl⟩
            have hj':(i:Int)+(k:Int)=(j:Int):=by omega
            have HT1:Hid _:=HT.out j
            have hC:=HC.out
            rw [show 4 - k=(3 - k)+1 from by omega,← hj,cont_step l j (3 - k) c] at hC
            by_cases g:tlAt l j=true
            · rw [g] at HT1
              rw [if_pos g] at hC
              unfold tlAt tlB at g
              simp only [Bool.and_eq_true,decide_eq_true_eq] at g
              obtain ⟨jlt,jb1,jb2⟩:=g
              have jlt':(j:Int) < (l.length:Int):=by omega
              have hBj:j < (ByteArray.mk l.toArray).size:=by show j < l.toArray.size;simpa using jlt
              have hbj:((ByteArray.mk l.toArray)[j]'hBj).toNat=(l.getD j 0).toNat:=by rw [get_at l j jlt];rfl
              obtain ⟨c2,hc2⟩:∃ c2,c2=64*c+(l.getD j 0).toNat - 128:=⟨_,rfl⟩
              have hcc:64*(c:Int)+(((ByteArray.mk l.toArray)[j]'hBj).toNat:Int) - 128=(c2:Int):=by rw [hbj];omega
              rw [← hc2] at hC
              have HC':Hid (cont 3 c0 (l.drop (i+1))=cont (4 - (k+1)) c2 (l.drop (i+(k+1)))):=by
                show cont 3 c0 (l.drop (i+1))=_
                rw [hC,show 4 - (k+1)=3 - k from by omega,show i+(k+1)=j+1 from by omega]
              have hlow2:Low (k+1) c2:=by unfold Low;omega
              have kl2:i+(k+1)≤l.length:=by omega
              have k256:((ByteArray.mk l.toArray)[j]'hBj).toNat < 256:=UInt8.toNat_lt _
              have HLw:Hid _:=hlow2
              have hcs:c < 131072:=by omega
              clear hC HC hbj hc2 jb1 jb2 hj HM HT hlow hlow2
              as_aux_lemma =>
                go_wp2_with fail
                refine (HT1.out _).mono ?_
                rintro e w1 ⟨rfl,rfl⟩
                go_wp2_with fail
                exact ⟨⟨c2,k+1,rfl,by go_num,by omega,by omega,kl2,HLw.out,HC',trivial⟩,by simp [intOf];omega⟩
            · have g':tlAt l j=false:=by simpa using g
              rw [g'] at HT1
              rw [if_neg g] at hC
              have HF:Hid (U=false):=by
                show U=false
                rw [HM.out,hC]
              clear hC HC g g' hj HM HT hlow
              as_aux_lemma =>
                go_wp2_with fail
                refine (HT1.out _).mono ?_
                rintro e w1 ⟨rfl,rfl⟩
                go_wp2_with fail
                go_ret
                exact ⟨congrArg (fun b=>Ending.returned (Value.bool b)) HF.out.symm,rfl⟩
          · have hk':¬ (k:Int)≤3:=by omega
            have ek:k=4:=by omega
            have HU:Hid (U=(fine 3 c && utfB (l.drop (i+4)))):=by
              show U=_
              have hC:=HC.out
              rw [ek,Nat.sub_self,cont] at hC
              rw [HM.out,hC]
            have hcb:c < 8388608:=hlow.2.2.2.2
            have hcl:=hlow.2.2.2.1 ek
            have kli:i+4≤l.length:=by omega
            clear HM ek hlow
            by_cases e1:c < 65536
            · have e1':(c:Int) < 65536:=by omega
              have HF:Hid (U=false):=by
                show U=false
                rw [HU.out,show fine 3 c=false from decide_eq_false (by omega)]
                rfl
              clear HU HT HC
              as_aux_lemma =>
                go_wp2_with fail
                go_ret
                exact ⟨congrArg (fun b=>Ending.returned (Value.bool b)) HF.out.symm,rfl⟩
            · have e1':¬ (c:Int) < 65536:=by omega
              by_cases e4:1114111 < c
              · have e4':(1114111:Int) < (c:Int):=by omega
                have HF:Hid (U=false):=by
                  show U=false
                  rw [HU.out,show fine 3 c=false from decide_eq_false (by omega)]
                  rfl
                clear HU HT HC
                as_aux_lemma =>
                  go_wp2_with fail
                  go_ret
                  exact ⟨congrArg (fun b=>Ending.returned (Value.bool b)) HF.out.symm,rfl⟩
              · have e4':¬ (1114111:Int) < (c:Int):=by omega
                have e5:(55296:Int)≤(c:Int):=by omega
                have e6:¬ (c:Int)≤57343:=by omega
                have HF:Hid (U=utfB (l.drop (i+4))):=by
                  show U=_
                  rw [HU.out,show fine 3 c=true from decide_eq_true (by omega)]
                  rfl
                clear HU HT HC
                as_aux_lemma =>
                  go_wp2_with fail
                  exact ⟨⟨i+4,by omega,congrArg (Value.int .i64) (by omega),HF,trivial⟩,by simp [intOf];omega⟩
    · have hlt':¬ (i:Int) < (l.length:Int):=by omega
      have HF:Hid (U=true):=by
        have:=HR.out
        rw [List.drop_eq_nil_of_le (by omega),utfB] at this
        exact this
      clear HR HT
      as_aux_lemma =>
        go_wp2_with fail
        go_ret
        exact ⟨congrArg (fun b=>Ending.returned (Value.bool b)) HF.out.symm,rfl⟩
end Go.Proofs.YtibahfopmjiffaaGreatDoor.La
/- text, behind, order, the document's. Own work of the verifier. -/
set_option maxHeartbeats 1000000
namespace Go.Proofs.YtibahfopmjiffaaGreatDoor.La
open Go.RowKit
def txE (l:List UInt8):Int:=if 1024 < l.length then 4 else if utfB l then 0 else 11
theorem ltext_any (l:List UInt8) (hl:l.length≤4611686018427387904) (w:World) :
    Calls Tryz.prog 66 #[.string ⟨l.toArray⟩] w fun r w'=>r=.returned (.int .i64 (txE l))∧w'=w:=by
  have HU:Hid _:=fun W=>utf_any l hl W
  unfold txE
  by_cases h:1024 < l.length
  · have h':(1024:Int) < (l.length:Int):=by omega
    rw [if_pos h]
    as_aux_lemma =>
      go_enter Tryz.func66,Tryz.ntmps66
      go_wp2_with fail
      go_ret
      exact ⟨rfl,rfl⟩
  · have h':¬ (1024:Int) < (l.length:Int):=by omega
    rw [if_neg h]
    generalize utfB l=u at *
    cases u
    · rw [if_neg (by decide)]
      as_aux_lemma =>
        go_enter Tryz.func66,Tryz.ntmps66
        go_wp2_with fail
        refine (HU.out _).mono ?_
        rintro e w1 ⟨rfl,rfl⟩
        go_wp2_with fail
        go_ret
        exact ⟨rfl,rfl⟩
    · rw [if_pos rfl]
      as_aux_lemma =>
        go_enter Tryz.func66,Tryz.ntmps66
        go_wp2_with fail
        refine (HU.out _).mono ?_
        rintro e w1 ⟨rfl,rfl⟩
        go_wp2_with fail
        go_ret
        exact ⟨rfl,rfl⟩
def bltB (a b:List UInt8):Bool:=decide (a < b)
theorem less_list (a b:List UInt8):Op.bytesLess a b=bltB a b:=by
  unfold bltB
  rw [Proofs.bytesLess_eq]
def bhE (a b:List UInt8):Int:=if a=b then 10 else if bltB b a then 15 else 0
theorem behind_any (a b:List UInt8) (w:World) :
    Calls Tryz.prog 68 #[.string ⟨a.toArray⟩,.string ⟨b.toArray⟩] w fun r w'=>r=.returned (.int .i64 (bhE a b))∧w'=w:=by
  have hL:=less_list b a
  unfold bhE
  by_cases h:a=b
  · rw [if_pos h]
    subst h
    clear hL
    as_aux_lemma =>
      go_enter Tryz.func68,Tryz.ntmps68
      go_wp2_with fail
      go_ret
      exact ⟨rfl,rfl⟩
  · rw [if_neg h]
    have h':(a == b)=false:=by simpa using h
    clear h
    generalize bltB b a=u at *
    cases u
    · rw [if_neg (by decide)]
      as_aux_lemma =>
        go_enter Tryz.func68,Tryz.ntmps68
        go_wp2_with fail
        go_ret
        exact ⟨rfl,rfl⟩
    · rw [if_pos rfl]
      as_aux_lemma =>
        go_enter Tryz.func68,Tryz.ntmps68
        go_wp2_with fail
        go_ret
        exact ⟨rfl,rfl⟩
end Go.Proofs.YtibahfopmjiffaaGreatDoor.La
/- TEXTS THAT GROW; Help and Unhelp, the document's. Own work of the verifier. -/
namespace Go.Proofs.YtibahfopmjiffaaGreatDoor.La
open Go.RowKit
theorem bel1 (w:World) (o1:Obj):Below w.heap.size w (w.alloc o1):=(Below.refl _ _).alloc (Nat.le_refl _) _
structure GB (B:Nat) (e:TypeId) (f:Nat→Value) (W0:World) (v:Value) (xs:List Nat) (w:World):Prop where
  own:w.ownsRow B e 1 v xs.length (xs.map f)
  nz:v≠.slice none 0 0
  below:Below B W0 w
  size:B≤w.heap.size
theorem own_ofG {w:World} {B:Nat} {e:TypeId} {v:Value} {n:Nat} {xs:List Value} (h:w.ownsRow B e 1 v n xs) (hn:v≠.slice none 0 0):∃ g cap cur,v=.slice (some ⟨g,0,none⟩) n cap∧B≤g∧w.heap[g]? =some (.cells cur e)∧n≤cap∧cap≤maxLen∧cur.size=cap∧cur.toList.take n=xs:=by
  rcases h.2 with h2 | ⟨g,cap,cur,hv,hg,hh,h3,h4,h5,h6⟩
  · exact absurd h2.1 hn
  · exact ⟨g,cap,cur,hv,hg,hh,h3,h4,by simpa using h5,by simpa using h6⟩
theorem GB.push {B:Nat} {e:TypeId} {f:Nat→Value} {W0 w w':World} {v v':Value} {xs:List Nat} {x:Nat} {y:Value} (h:GB B e f W0 v xs w) (ob:Obj) (hy:y=f x)
    (hown:w'.ownsRow B e 1 v' (xs.length+1) (xs.map f++[y])) (hg:(w.alloc ob).grownBy w' v.ownBlock) (hnil:v'=.slice none 0 0 ↔ v=.slice none 0 0∧1=0):GB B e f W0 v' (xs++[x]) w':=by
  obtain ⟨gv,cap,cur,rfl,hB,hcur,_⟩:=own_ofG h.own h.nz
  have hw:=World.grownBy_alloc w ob none
  have hg':(w.alloc ob).grownBy w' (some gv):=hg
  have s1:=hw.size
  have s2:=hg'.size
  refine ⟨?_,fun e=>h.nz (hnil.1 e).1,?_,by have:=h.size;omega⟩
  · rw [List.length_append,List.map_append];subst hy;exact hown
  · exact (h.below.grown hw h.size (fun k e=>by cases e)).grown hg' (by have:=h.size;omega) (fun k e=>by cases e;exact hB)
theorem GB.push2 {B:Nat} {e:TypeId} {f:Nat→Value} {W0 w w':World} {v v':Value} {xs:List Nat} {x y:Nat} {p q:Value} (h:GB B e f W0 v xs w) (ob:Obj) (hp:p=f x) (hq:q=f y)
    (hown:w'.ownsRow B e 1 v' (xs.length+2) (xs.map f++[p,q])) (hg:(w.alloc ob).grownBy w' v.ownBlock) (hnil:v'=.slice none 0 0 ↔ v=.slice none 0 0∧2=0):GB B e f W0 v' (xs++[x,y]) w':=by
  obtain ⟨gv,cap,cur,rfl,hB,hcur,_⟩:=own_ofG h.own h.nz
  have hw:=World.grownBy_alloc w ob none
  have hg':(w.alloc ob).grownBy w' (some gv):=hg
  have s1:=hw.size
  have s2:=hg'.size
  refine ⟨?_,fun e=>h.nz (hnil.1 e).1,?_,by have:=h.size;omega⟩
  · rw [List.length_append,List.map_append];subst hp hq;exact hown
  · exact (h.below.grown hw h.size (fun k e=>by cases e)).grown hg' (by have:=h.size;omega) (fun k e=>by cases e;exact hB)
theorem GB.new {e:TypeId} {f:Nat→Value} (w:World):GB w.heap.size e f w (.slice (some ⟨w.heap.size,0,none⟩) 0 0) [] (w.alloc (.cells #[] e)):=by
  refine ⟨⟨rfl,.inr ⟨w.heap.size,0,#[],rfl,Nat.le_refl _,?_,Nat.le_refl _,by unfold maxLen;omega,rfl,rfl⟩⟩,(fun h=>by cases h),bel1 w _,by simp⟩
  show (w.heap.push _)[w.heap.size]? =_
  simp
def bV (n:Nat):Value:=.int .u8 (n:Int)
def txs (xs:List Nat):List UInt8:=xs.map UInt8.ofNat
end Go.Proofs.YtibahfopmjiffaaGreatDoor.La
/- escaped, Help, Unhelp, the document's. Own work of the verifier. -/
set_option maxRecDepth 100000
set_option maxHeartbeats 4000000
namespace Go.Proofs.YtibahfopmjiffaaGreatDoor.La
open Go.RowKit
theorem infoByte:(Tryz.prog.info? 5).map (fun i=>(i.zero,i.size,i.bytes))=some (some (.int .u8 0),1,1):=by kernel_rfl
theorem cell_two_new (w:World) (x y:Value) (t:TypeId):∀ j u,[x,y][j]? =some u→(w.alloc (.cells #[x,y] t)).cell? ((⟨w.heap.size,0,none⟩:Addr).add j)=some u:=by
  intro j u hj
  match j,hj with
  | 0,hj=>simp at hj;subst hj;simp [go_sem]
  | 1,hj=>simp at hj;subst hj;simp [go_sem]
  | k+2,hj=>simp at hj
theorem GB.text {B:Nat} {W0 w:World} {v:Value} {xs:List Nat} (h:GB B 5 bV W0 v xs w) (hx:∀ x ∈ xs,x < 256):(convert 54 9 v).run Tryz.prog w=.ok (.string ⟨(txs xs).toArray⟩) w:=by
  obtain ⟨g,cap,cur,rfl,hB,hcur,_,_,h5,h6⟩:=own_ofG h.own h.nz
  have hl:(txs xs).length=xs.length:=by unfold txs;rw [List.length_map]
  have hc:=run_convert_bytes_back (P:=Tryz.prog) w 54 9 5 ⟨g,0,none⟩ cap (txs xs) Tryz.underlying54 Tryz.underlying5 Tryz.underlying9 (fun k hk=>by
    have hk':k < xs.length:=by omega
    have e1:cur[k]? =some (bV xs[k]):=by
      have:(cur.toList.take xs.length)[k]? =some (bV xs[k]):=by
        rw [h6,List.getElem?_map,List.getElem?_eq_getElem hk']
        rfl
      rw [List.getElem?_take,if_pos hk'] at this
      rw [← Array.getElem?_toList]
      exact this
    have a2:(⟨g,0,none⟩:Addr).add k=⟨g,k,none⟩:=by
      unfold Addr.add
      by_cases h0:k=0
      · subst h0;rfl
      · rw [if_neg h0];simp
    have a3:(txs xs)[k]=UInt8.ofNat xs[k]:=by simp only [txs,List.getElem_map]
    have a4:xs[k] < 256:=hx _ (List.getElem_mem hk')
    rw [a2,a3,UInt8.toNat_ofNat',Nat.mod_eq_of_lt a4]
    simp [World.cell?,hcur,e1]
    rfl)
  rw [hl] at hc
  exact hc
def esc1 (q:Bool) (b:UInt8):List UInt8:=if b.toNat=92∨q=true∧b.toNat=34 then [92,b] else if b.toNat=10 then [92,110] else [b]
def escL (q:Bool):List UInt8→List UInt8
  | []=>[]
  | b::r=>esc1 q b++escL q r
theorem escL_drop (q:Bool) (l:List UInt8) (i:Nat) (h:i < l.length):escL q (l.drop i)=esc1 q l[i]++escL q (l.drop (i+1)):=by
  rw [List.drop_eq_getElem_cons h,escL]
theorem txs_app (a b:List Nat):txs (a++b)=txs a++txs b:=by unfold txs;rw [List.map_append]
theorem byte_nat (b:UInt8):UInt8.ofNat b.toNat=b:=by simp
def EscI (q:Bool) (l:List UInt8) (i:Nat) (xs:List Nat):Prop:=escL q l=txs xs++escL q (l.drop i)∧(∀ x ∈ xs,x < 256)
theorem EscI.step {q:Bool} {l:List UInt8} {i:Nat} {xs ys:List Nat} (h:EscI q l i xs) (hi:i < l.length) (hy:txs ys=esc1 q l[i]) (hb:∀ y ∈ ys,y < 256):EscI q l (i+1) (xs++ys):=by
  obtain ⟨h1,h2⟩:=h
  refine ⟨?_,fun x hx=>?_⟩
  · rw [h1,escL_drop q l i hi,txs_app,hy,List.append_assoc]
  · rcases List.mem_append.1 hx with g | g
    · exact h2 x g
    · exact hb x g
theorem escaped_any (l:List UInt8) (q:Bool) (hl:l.length≤35184372088832) (w:World) :
    Calls Tryz.prog 61 #[.string ⟨l.toArray⟩,.bool q] w fun r w'=>r=.returned (.string ⟨(escL q l).toArray⟩)∧Below w.heap.size w w':=by
  obtain ⟨i0,hi0,hz0,hz1,hz2⟩:=info_parts infoByte
  have HS:Hid (EscI q l 0 []):=⟨rfl,fun x hx=>by cases hx⟩
  go_enter Tryz.func61,Tryz.ntmps61
  go_wp2_with fail
  go_loopw [5,6] (fun v a W=>∃ (i:Nat) (xs:List Nat),i≤l.length∧a=.int .i64 (i:Int)∧xs.length≤2*i∧Hid (EscI q l i xs)∧GB w.heap.size 5 bV w v xs W) (fun _ a _=>l.length - (intOf a).toNat)
  case atStart=>exact ⟨0,[],by omega,rfl,by simp,HS,GB.new w⟩
  case round =>
    clear HS
    obtain ⟨i,xs,hi,rfl,hxl,HI,hG⟩:=hrel
    by_cases hlt:i < l.length
    · have hlt':(i:Int) < (l.length:Int):=by omega
      have hB:i < (ByteArray.mk l.toArray).size:=by show i < l.toArray.size;simpa using hlt
      have hbe:((ByteArray.mk l.toArray)[i]'hB).toNat=l[i].toNat:=rfl
      have h256:((ByteArray.mk l.toArray)[i]'hB).toNat < 256:=UInt8.toNat_lt _
      have two:∀ (x y:Nat),x < 256→y < 256→∀ z ∈ [x,y],z < 256:=fun x y hx hy z hz=>by
        simp at hz;rcases hz with rfl | rfl
        · exact hx
        · exact hy
      by_cases g1:l[i].toNat=92
      · have t1:((((ByteArray.mk l.toArray)[i]'hB).toNat:Int) == 92)=true:=by rw [beq_iff_eq,hbe];omega
        have HI':Hid (EscI q l (i+1) (xs++[92,((ByteArray.mk l.toArray)[i]'hB).toNat])):=HI.out.step hlt (by unfold esc1;rw [if_pos (Or.inl g1)];show [UInt8.ofNat 92,UInt8.ofNat l[i].toNat]=_;rw [byte_nat];rfl) (two _ _ (by decide) h256)
        clear HI g1 hbe two
        as_aux_lemma =>
          go_wp2_with (first | (at_builtin;refine wpList_append_own _ rfl _ _ 54 rfl w.heap.size 5 i0 (.int .u8 0) 1 1 Tryz.underlying54 hi0 hz0 hz1 hz2 rfl (by decide) _ _ _ rfl (hG.own.alloc _) ⟨_,0,none⟩ 2 2 [_,_] rfl rfl (cell_two_new _ _ _ _) (by intro u hu;simp at hu;rcases hu with rfl | rfl <;> rfl) (by unfold maxLen;omega) (by omega) (by have:=hG.size;simp;omega) ?_;intro v' w7 hown hgrow hnil;have hG7:=hG.push2 (x:=92) (y:=((ByteArray.mk l.toArray)[i]'hB).toNat) _ rfl rfl hown hgrow hnil;clear hown hgrow hnil))
          exact ⟨⟨i+1,_,by omega,by go_num,by simp;omega,HI',hG7⟩,by simp [intOf];omega⟩
      have t1:((((ByteArray.mk l.toArray)[i]'hB).toNat:Int) == 92)=false:=by rw [beq_eq_false_iff_ne,hbe];omega
      cases q
      · have g2:¬ (false=true):=by decide
        by_cases g3:l[i].toNat=10
        · have t3:((((ByteArray.mk l.toArray)[i]'hB).toNat:Int) == 10)=true:=by rw [beq_iff_eq,hbe];omega
          have HI':Hid (EscI false l (i+1) (xs++[92,110])):=HI.out.step hlt (by unfold esc1;rw [if_neg (fun k=>Or.elim k g1 (fun k=>g2 k.1)),if_pos g3];rfl) (two _ _ (by decide) (by decide))
          clear HI g1 g2 g3 hbe two
          as_aux_lemma =>
            go_wp2_with (first | (at_builtin;refine wpList_append_own _ rfl _ _ 54 rfl w.heap.size 5 i0 (.int .u8 0) 1 1 Tryz.underlying54 hi0 hz0 hz1 hz2 rfl (by decide) _ _ _ rfl (hG.own.alloc _) ⟨_,0,none⟩ 2 2 [_,_] rfl rfl (cell_two_new _ _ _ _) (by intro u hu;simp at hu;rcases hu with rfl | rfl <;> rfl) (by unfold maxLen;omega) (by omega) (by have:=hG.size;simp;omega) ?_;intro v' w7 hown hgrow hnil;have hG7:=hG.push2 (x:=92) (y:=110) _ rfl rfl hown hgrow hnil;clear hown hgrow hnil))
            exact ⟨⟨i+1,_,by omega,by go_num,by simp;omega,HI',hG7⟩,by simp [intOf];omega⟩
        · have t3:((((ByteArray.mk l.toArray)[i]'hB).toNat:Int) == 10)=false:=by rw [beq_eq_false_iff_ne,hbe];omega
          have HI':Hid (EscI false l (i+1) (xs++[((ByteArray.mk l.toArray)[i]'hB).toNat])):=HI.out.step hlt (by unfold esc1;rw [if_neg (fun k=>Or.elim k g1 (fun k=>g2 k.1)),if_neg g3];show [UInt8.ofNat l[i].toNat]=_;rw [byte_nat]) (fun z hz=>by rw [List.mem_singleton.1 hz];exact h256)
          clear HI g1 g2 g3 hbe two
          as_aux_lemma =>
            go_wp2_with (first | (at_builtin;refine wpList_append_own _ rfl _ _ 54 rfl w.heap.size 5 i0 (.int .u8 0) 1 1 Tryz.underlying54 hi0 hz0 hz1 hz2 rfl (by decide) _ _ _ rfl (hG.own.alloc _) ⟨_,0,none⟩ 1 1 [_] rfl rfl (cell_one_new _ _ _) (by intro u hu;simp at hu;subst hu;rfl) (by unfold maxLen;omega) (by omega) (by have:=hG.size;simp;omega) ?_;intro v' w7 hown hgrow hnil;have hG7:=hG.push (x:=((ByteArray.mk l.toArray)[i]'hB).toNat) _ rfl hown hgrow hnil;clear hown hgrow hnil))
            exact ⟨⟨i+1,_,by omega,by go_num,by simp;omega,HI',hG7⟩,by simp [intOf];omega⟩
      · by_cases g2:l[i].toNat=34
        · have t2:((((ByteArray.mk l.toArray)[i]'hB).toNat:Int) == 34)=true:=by rw [beq_iff_eq,hbe];omega
          have HI':Hid (EscI true l (i+1) (xs++[92,((ByteArray.mk l.toArray)[i]'hB).toNat])):=HI.out.step hlt (by unfold esc1;rw [if_pos (Or.inr ⟨rfl,g2⟩)];show [UInt8.ofNat 92,UInt8.ofNat l[i].toNat]=_;rw [byte_nat];rfl) (two _ _ (by decide) h256)
          clear HI g1 g2 hbe two
          as_aux_lemma =>
            go_wp2_with (first | (at_builtin;refine wpList_append_own _ rfl _ _ 54 rfl w.heap.size 5 i0 (.int .u8 0) 1 1 Tryz.underlying54 hi0 hz0 hz1 hz2 rfl (by decide) _ _ _ rfl (hG.own.alloc _) ⟨_,0,none⟩ 2 2 [_,_] rfl rfl (cell_two_new _ _ _ _) (by intro u hu;simp at hu;rcases hu with rfl | rfl <;> rfl) (by unfold maxLen;omega) (by omega) (by have:=hG.size;simp;omega) ?_;intro v' w7 hown hgrow hnil;have hG7:=hG.push2 (x:=92) (y:=((ByteArray.mk l.toArray)[i]'hB).toNat) _ rfl rfl hown hgrow hnil;clear hown hgrow hnil))
            exact ⟨⟨i+1,_,by omega,by go_num,by simp;omega,HI',hG7⟩,by simp [intOf];omega⟩
        · have t2:((((ByteArray.mk l.toArray)[i]'hB).toNat:Int) == 34)=false:=by rw [beq_eq_false_iff_ne,hbe];omega
          by_cases g3:l[i].toNat=10
          · have t3:((((ByteArray.mk l.toArray)[i]'hB).toNat:Int) == 10)=true:=by rw [beq_iff_eq,hbe];omega
            have HI':Hid (EscI true l (i+1) (xs++[92,110])):=HI.out.step hlt (by unfold esc1;rw [if_neg (fun k=>Or.elim k g1 (fun k=>g2 k.2)),if_pos g3];rfl) (two _ _ (by decide) (by decide))
            clear HI g1 g2 g3 hbe two
            as_aux_lemma =>
              go_wp2_with (first | (at_builtin;refine wpList_append_own _ rfl _ _ 54 rfl w.heap.size 5 i0 (.int .u8 0) 1 1 Tryz.underlying54 hi0 hz0 hz1 hz2 rfl (by decide) _ _ _ rfl (hG.own.alloc _) ⟨_,0,none⟩ 2 2 [_,_] rfl rfl (cell_two_new _ _ _ _) (by intro u hu;simp at hu;rcases hu with rfl | rfl <;> rfl) (by unfold maxLen;omega) (by omega) (by have:=hG.size;simp;omega) ?_;intro v' w7 hown hgrow hnil;have hG7:=hG.push2 (x:=92) (y:=110) _ rfl rfl hown hgrow hnil;clear hown hgrow hnil))
              exact ⟨⟨i+1,_,by omega,by go_num,by simp;omega,HI',hG7⟩,by simp [intOf];omega⟩
          · have t3:((((ByteArray.mk l.toArray)[i]'hB).toNat:Int) == 10)=false:=by rw [beq_eq_false_iff_ne,hbe];omega
            have HI':Hid (EscI true l (i+1) (xs++[((ByteArray.mk l.toArray)[i]'hB).toNat])):=HI.out.step hlt (by unfold esc1;rw [if_neg (fun k=>Or.elim k g1 (fun k=>g2 k.2)),if_neg g3];show [UInt8.ofNat l[i].toNat]=_;rw [byte_nat]) (fun z hz=>by rw [List.mem_singleton.1 hz];exact h256)
            clear HI g1 g2 g3 hbe two
            as_aux_lemma =>
              go_wp2_with (first | (at_builtin;refine wpList_append_own _ rfl _ _ 54 rfl w.heap.size 5 i0 (.int .u8 0) 1 1 Tryz.underlying54 hi0 hz0 hz1 hz2 rfl (by decide) _ _ _ rfl (hG.own.alloc _) ⟨_,0,none⟩ 1 1 [_] rfl rfl (cell_one_new _ _ _) (by intro u hu;simp at hu;subst hu;rfl) (by unfold maxLen;omega) (by omega) (by have:=hG.size;simp;omega) ?_;intro v' w7 hown hgrow hnil;have hG7:=hG.push (x:=((ByteArray.mk l.toArray)[i]'hB).toNat) _ rfl hown hgrow hnil;clear hown hgrow hnil))
              exact ⟨⟨i+1,_,by omega,by go_num,by simp;omega,HI',hG7⟩,by simp [intOf];omega⟩
    · have hlt':¬ (i:Int) < (l.length:Int):=by omega
      have hcv:=hG.text HI.out.2
      have HE:Hid (escL q l=txs xs):=by
        have:=HI.out.1
        rw [List.drop_eq_nil_of_le (by omega),escL,List.append_nil] at this
        exact this
      have hbl:=hG.below
      clear HI
      as_aux_lemma =>
        go_wp2_with fail
        go_ret
        exact ⟨congrArg (fun z:List UInt8=>Ending.returned (Value.string ⟨z.toArray⟩)) HE.out.symm,hbl⟩
end Go.Proofs.YtibahfopmjiffaaGreatDoor.La
