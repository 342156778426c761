/- readFloat AT EVERY TEXT: it answers something. Own work of the verifier. -/
import Derived.Test.YtifapjammoahgaaGreatDoorSAI
import Derived.WalkMore
import Derived.Deep.DeepCutAuto
import Derived.IntWalk
import Derived.Deep.CutBlock
set_option maxRecDepth 100000
set_option maxHeartbeats 8000000
namespace Go.Proofs.YtifapjammoahgaaGreatDoor.Rl
open Go.RowKit
theorem read_some (l:List UInt8) (hl:l.length≤25) (w:World) :
    Calls Tryz.prog 182 #[.string ⟨l.toArray⟩] w fun e w'=>TellsR l e∧w'=w:=by
  have hlen:(l.length:Int)≤25:=by omega
  have HL:Hid _:=fun (x:Int) (W:World)=>Tryz.internal_strconv_lower x W
  by_cases hnil:l=[]
  · subst hnil
    go_enter Tryz.func182,Tryz.ntmps182
    go_wp2_with fail
    go_step3
    go_wp2_with fail
    try rw [Exit.noGoto_ret]
    show bodyPost _ _ _ _ _ _
    simp [bodyPost,results,Tryz.results182,go_sem]
    exact ⟨0,0,false,false,false,0,false,rfl,by decide,(fun _=>by decide),by omega,by omega,by simp⟩
  · have h0:0 < l.length:=by cases l with | nil=>exact absurd rfl hnil | cons c r=>simp
    have hB0:0 < (ByteArray.mk l.toArray).size:=by show 0 < l.toArray.size;simpa using h0
    go_enter Tryz.func182,Tryz.ntmps182
    go_wp2_with fail
    go_step3
    go_upto_block 0 with fail
    go_cut [4,7] from 21 (fun s t W=>∃ (ng:Bool) (j:Nat),s=.bool ng∧t=.int .i64 (j:Int)∧j≤1∧W=w)
    case first =>
      as_aux_lemma =>
        go_wp2_with fail
        all_goals (go_meet;first | exact ⟨false,1,rfl,rfl,by omega,rfl⟩ | exact ⟨true,1,rfl,rfl,by omega,rfl⟩ | exact ⟨false,0,rfl,rfl,by omega,rfl⟩)
    case rest =>
    as_aux_lemma =>
    obtain ⟨ng,j0,rfl,rfl,hj0,rfl⟩:=hcut
    go_upto_region 12 with fail
    go_cut [54] from 21 (fun s W=>∃ b:Bool,s=.bool b∧(b=true→j0+2 < l.length)∧W=wc)
    case first =>
      by_cases h2:j0+2 < l.length
      · have h2':(j0:Int)+2 < (l.length:Int):=by omega
        have hlt:(j0:Int) < (l.length:Int):=by omega
        have hlt1:(j0:Int)+1 < (l.length:Int):=by omega
        have hB:j0 < (ByteArray.mk l.toArray).size:=by show j0 < l.toArray.size;simp;omega
        have hB1:j0+1 < (ByteArray.mk l.toArray).size:=by show j0+1 < l.toArray.size;simp;omega
        rcases bool_or ((((ByteArray.mk l.toArray)[j0]'hB).toNat:Int) == 48) with t48 | t48
        · as_aux_lemma =>
            go_wp2_with (first
              | (go_at_call 143;refine (HL.out _ _).mono ?_;rintro e w' ⟨rfl,rfl⟩)
              | fail)
            go_meet
            exact ⟨_,rfl,(fun _=>h2),rfl⟩
        · as_aux_lemma =>
            go_wp2_with fail
            go_meet
            exact ⟨_,rfl,(fun _=>h2),rfl⟩
      · have h2':¬ (j0:Int)+2 < (l.length:Int):=by omega
        as_aux_lemma =>
          go_wp2_with fail
          go_meet
          exact ⟨false,rfl,(fun h=>by cases h),rfl⟩
    case rest =>
    as_aux_lemma =>
    obtain ⟨b0,rfl,hb0,rfl⟩:=hcut
    go_upto_if 54 with fail
    go_cut [6,7,10,11,12] from 21 (fun h i bs mx ec W=>∃ (hx:Bool) (j B m c:Nat),h=.bool hx∧i=.int .i64 (j:Int)∧j≤l.length∧bs=.int .u64 (B:Int)∧mx=.int .i64 (m:Int)∧ec=.int .u8 (c:Int)∧Hid (Way hx B m c)∧W=wc)
    case first =>
      as_aux_lemma =>
        cases b0
        · go_wp2_with fail
          go_meet
          exact ⟨false,j0,10,19,101,rfl,rfl,by omega,rfl,rfl,rfl,Or.inl ⟨rfl,rfl,rfl,rfl⟩,rfl⟩
        · have:=hb0 rfl
          go_wp2_with fail
          go_meet
          exact ⟨true,j0+2,16,16,112,rfl,congrArg (Value.int .i64) (by omega),by omega,rfl,rfl,rfl,Or.inr ⟨rfl,rfl,rfl,rfl⟩,rfl⟩
    case rest =>
    as_aux_lemma =>
    clear hb0
    obtain ⟨hx,j1,B,mx,ec,rfl,rfl,hj1,rfl,rfl,rfl,HW,rfl⟩:=hcut
    go_wp2_with fail
    go_step3
    go_upto_block 1 with fail
    go_cut [2,5,7,9,13,14,15,16,17,18] from 21 (fun m tc i un sd sg nd nm dp _ W=>∃ (j M N K:Nat) (P:Int) (a b tr us:Bool),m=.int .u64 (M:Int)∧tc=.bool tr∧i=.int .i64 (j:Int)∧un=.bool us∧sd=.bool a∧sg=.bool b∧nd=.int .i64 (N:Int)∧nm=.int .i64 (K:Int)∧dp=.int .i64 P∧j≤l.length∧N≤j∧K≤N∧-(j:Int)≤P∧P≤(j:Int)∧Hid (Most B K mx M)∧W=wc)
    case first =>
      as_aux_lemma =>
        go_wp2_with fail
        go_loopw [2,5,7,9,13,14,15,16,17,18] (fun m tc i un sd sg nd nm dp _ W=>∃ (j M N K:Nat) (P:Int) (a b tr us:Bool),m=.int .u64 (M:Int)∧tc=.bool tr∧i=.int .i64 (j:Int)∧un=.bool us∧sd=.bool a∧sg=.bool b∧nd=.int .i64 (N:Int)∧nm=.int .i64 (K:Int)∧dp=.int .i64 P∧j≤l.length∧N≤j∧K≤N∧-(j:Int)≤P∧P≤(j:Int)∧Hid (Most B K mx M)∧W=wc) (fun _ _ i _ _ _ _ _ _ _ _=>l.length - (intOf i).toNat)
        case atStart=>exact ⟨j1,0,0,0,0,false,false,false,false,rfl,rfl,rfl,rfl,rfl,rfl,rfl,rfl,rfl,hj1,by omega,by omega,by omega,by omega,Most.zero _ _,rfl⟩
        case round =>
          clear hj1
          obtain ⟨j,M,N,K,P,a,b,tr,us,rfl,rfl,rfl,rfl,rfl,rfl,rfl,rfl,rfl,hj,hN,hK,hP0,hP1,HM,rfl⟩:=hrel
          by_cases hlt:j < l.length
          · have hlt':(j:Int) < (l.length:Int):=by omega
            have hBj:j < (ByteArray.mk l.toArray).size:=by show j < l.toArray.size;simpa using hlt
            have hbj:((ByteArray.mk l.toArray)[j]'hBj).toNat=l[j].toNat:=rfl
            by_cases c95:l[j].toNat=95
            · have t95:((((ByteArray.mk l.toArray)[j]'hBj).toNat:Int) == 95)=true:=by rw [beq_iff_eq,hbj];omega
              clear hbj c95
              as_aux_lemma =>
                go_wp2_with fail
                exact ⟨⟨j+1,M,N,K,P,a,b,tr,true,rfl,rfl,by go_num,rfl,rfl,rfl,rfl,rfl,rfl,by omega,by omega,by omega,by omega,by omega,HM,True.intro⟩,by simp [intOf];omega⟩
            · have t95:((((ByteArray.mk l.toArray)[j]'hBj).toNat:Int) == 95)=false:=by rw [beq_eq_false_iff_ne,hbj];omega
              by_cases c46:l[j].toNat=46
              · have t46:((((ByteArray.mk l.toArray)[j]'hBj).toNat:Int) == 46)=true:=by rw [beq_iff_eq,hbj];omega
                clear hbj c46 c95
                cases a
                · as_aux_lemma =>
                    go_wp2_with fail
                    exact ⟨⟨j+1,M,N,K,N,true,b,tr,us,rfl,rfl,by go_num,rfl,rfl,rfl,rfl,rfl,rfl,by omega,by omega,by omega,by omega,by omega,HM,True.intro⟩,by simp [intOf];omega⟩
                · as_aux_lemma =>
                    go_wp2_with fail
                    go_meet
                    exact ⟨j,M,N,K,P,true,b,tr,us,rfl,rfl,rfl,rfl,rfl,rfl,rfl,rfl,rfl,hj,hN,hK,hP0,hP1,HM,rfl⟩
              · have t46:((((ByteArray.mk l.toArray)[j]'hBj).toNat:Int) == 46)=false:=by rw [beq_eq_false_iff_ne,hbj];omega
                by_cases cdg:48≤l[j].toNat∧l[j].toNat≤57
                · have t48:(48:Int)≤(((ByteArray.mk l.toArray)[j]'hBj).toNat:Int):=by rw [hbj];omega
                  have t57:(((ByteArray.mk l.toArray)[j]'hBj).toNat:Int)≤57:=by rw [hbj];omega
                  by_cases cz:l[j].toNat=48∧N=0
                  · obtain ⟨c0,rfl⟩:=cz
                    have t0:((((ByteArray.mk l.toArray)[j]'hBj).toNat:Int) == 48)=true:=by rw [beq_iff_eq,hbj];omega
                    clear hbj c0 cdg c46 c95
                    as_aux_lemma =>
                      go_wp2_with fail
                      exact ⟨⟨j+1,M,0,K,P - 1,a,true,tr,us,rfl,rfl,by go_num,rfl,rfl,rfl,rfl,rfl,by go_num,by omega,by omega,by omega,by omega,by omega,HM,True.intro⟩,by simp [intOf];omega⟩
                  · skip
                    by_cases c0:l[j].toNat=48
                    · have t0:((((ByteArray.mk l.toArray)[j]'hBj).toNat:Int) == 48)=true:=by rw [beq_iff_eq,hbj];omega
                      have t0n:((((ByteArray.mk l.toArray)[j]'hBj).toNat:Int) != 48)=false:=by rw [bne_eq_false_iff_eq,hbj];omega
                      have tN:((N:Int) == 0)=false:=by rw [beq_eq_false_iff_ne];omega
                      clear hbj c0 cz c95 c46
                      rcases HW.out with ⟨rfl,rfl,rfl,rfl⟩ | ⟨rfl,rfl,rfl,rfl⟩
                      · skip
                        by_cases cK:K < 19
                        · have tK:(K:Int) < 19:=by omega
                          have hM:=HM.out.low10 cK
                          have HM2:Hid (Most 10 (K+1) 19 (M*10+(l[j].toNat - 48))):=HM.out.step (by decide) (by omega) cK
                          as_aux_lemma =>
                            go_wp2_with fail
                            refine ⟨⟨j+1,M*10+(l[j].toNat - 48),N+1,K+1,P,a,true,tr,us,?_,rfl,by go_num,rfl,rfl,rfl,by go_num,by go_num,rfl,by omega,by omega,by omega,by omega,by omega,HM2,True.intro⟩,by simp [intOf];omega⟩
                            show Value.int .u64 ((M:Int)*10+((l[j].toNat:Int) - 48))=_
                            congr 1
                            omega
                        · have tK:¬ (K:Int) < 19:=by omega
                          as_aux_lemma =>
                            clear cdg
                            go_wp2_with fail
                            exact ⟨⟨j+1,M,N+1,K,P,a,true,tr,us,rfl,rfl,by go_num,rfl,rfl,rfl,by go_num,rfl,rfl,by omega,by omega,by omega,by omega,by omega,HM,True.intro⟩,by simp [intOf];omega⟩
                      · skip
                        by_cases cK:K < 16
                        · have tK:(K:Int) < 16:=by omega
                          have hM:=HM.out.low16 cK
                          have HM2:Hid (Most 16 (K+1) 16 (M*16+(l[j].toNat - 48))):=HM.out.step (by decide) (by omega) cK
                          as_aux_lemma =>
                            go_wp2_with fail
                            refine ⟨⟨j+1,M*16+(l[j].toNat - 48),N+1,K+1,P,a,true,tr,us,?_,rfl,by go_num,rfl,rfl,rfl,by go_num,by go_num,rfl,by omega,by omega,by omega,by omega,by omega,HM2,True.intro⟩,by simp [intOf];omega⟩
                            show Value.int .u64 ((M:Int)*16+((l[j].toNat:Int) - 48))=_
                            congr 1
                            omega
                        · have tK:¬ (K:Int) < 16:=by omega
                          as_aux_lemma =>
                            clear cdg
                            go_wp2_with fail
                            exact ⟨⟨j+1,M,N+1,K,P,a,true,tr,us,rfl,rfl,by go_num,rfl,rfl,rfl,by go_num,rfl,rfl,by omega,by omega,by omega,by omega,by omega,HM,True.intro⟩,by simp [intOf];omega⟩
                    · have t0:((((ByteArray.mk l.toArray)[j]'hBj).toNat:Int) == 48)=false:=by rw [beq_eq_false_iff_ne,hbj];omega
                      have t0n:((((ByteArray.mk l.toArray)[j]'hBj).toNat:Int) != 48)=true:=by rw [bne_iff_ne,hbj];omega
                      clear hbj c0 cz c95 c46
                      rcases HW.out with ⟨rfl,rfl,rfl,rfl⟩ | ⟨rfl,rfl,rfl,rfl⟩
                      · skip
                        by_cases cK:K < 19
                        · have tK:(K:Int) < 19:=by omega
                          have hM:=HM.out.low10 cK
                          have HM2:Hid (Most 10 (K+1) 19 (M*10+(l[j].toNat - 48))):=HM.out.step (by decide) (by omega) cK
                          as_aux_lemma =>
                            go_wp2_with fail
                            refine ⟨⟨j+1,M*10+(l[j].toNat - 48),N+1,K+1,P,a,true,tr,us,?_,rfl,by go_num,rfl,rfl,rfl,by go_num,by go_num,rfl,by omega,by omega,by omega,by omega,by omega,HM2,True.intro⟩,by simp [intOf];omega⟩
                            show Value.int .u64 ((M:Int)*10+((l[j].toNat:Int) - 48))=_
                            congr 1
                            omega
                        · have tK:¬ (K:Int) < 19:=by omega
                          as_aux_lemma =>
                            clear cdg
                            go_wp2_with fail
                            exact ⟨⟨j+1,M,N+1,K,P,a,true,true,us,rfl,rfl,by go_num,rfl,rfl,rfl,by go_num,rfl,rfl,by omega,by omega,by omega,by omega,by omega,HM,True.intro⟩,by simp [intOf];omega⟩
                      · skip
                        by_cases cK:K < 16
                        · have tK:(K:Int) < 16:=by omega
                          have hM:=HM.out.low16 cK
                          have HM2:Hid (Most 16 (K+1) 16 (M*16+(l[j].toNat - 48))):=HM.out.step (by decide) (by omega) cK
                          as_aux_lemma =>
                            go_wp2_with fail
                            refine ⟨⟨j+1,M*16+(l[j].toNat - 48),N+1,K+1,P,a,true,tr,us,?_,rfl,by go_num,rfl,rfl,rfl,by go_num,by go_num,rfl,by omega,by omega,by omega,by omega,by omega,HM2,True.intro⟩,by simp [intOf];omega⟩
                            show Value.int .u64 ((M:Int)*16+((l[j].toNat:Int) - 48))=_
                            congr 1
                            omega
                        · have tK:¬ (K:Int) < 16:=by omega
                          as_aux_lemma =>
                            clear cdg
                            go_wp2_with fail
                            exact ⟨⟨j+1,M,N+1,K,P,a,true,true,us,rfl,rfl,by go_num,rfl,rfl,rfl,by go_num,rfl,rfl,by omega,by omega,by omega,by omega,by omega,HM,True.intro⟩,by simp [intOf];omega⟩
                · by_cases c48:48≤l[j].toNat
                  · have t48:(48:Int)≤(((ByteArray.mk l.toArray)[j]'hBj).toNat:Int):=by rw [hbj];omega
                    have t57:¬ (((ByteArray.mk l.toArray)[j]'hBj).toNat:Int)≤57:=by rw [hbj];omega
                    clear hbj c48 cdg c46 c95
                    rcases HW.out with ⟨rfl,rfl,rfl,rfl⟩ | ⟨rfl,rfl,rfl,rfl⟩
                    · as_aux_lemma =>
                        go_wp2_with fail
                        go_meet
                        exact ⟨j,M,N,K,P,a,b,tr,us,rfl,rfl,rfl,rfl,rfl,rfl,rfl,rfl,rfl,hj,hN,hK,hP0,hP1,HM,rfl⟩
                    · rw [show ((16:Nat):Int)=(16:Int) from rfl,show ((112:Nat):Int)=(112:Int) from rfl]
                      by_cases t97:(97:Int)≤bits .or .u8 (((ByteArray.mk l.toArray)[j]'hBj).toNat:Int) 32
                      · by_cases t102:bits .or .u8 (((ByteArray.mk l.toArray)[j]'hBj).toNat:Int) 32≤102
                        · obtain ⟨d,hd,hd9,hd16⟩:∃ d:Nat,bits .or .u8 (((ByteArray.mk l.toArray)[j]'hBj).toNat:Int) 32=87+(d:Int)∧10≤d∧d < 16:=⟨(bits .or .u8 (((ByteArray.mk l.toArray)[j]'hBj).toNat:Int) 32 - 87).toNat,by omega,by omega,by omega⟩
                          have t97':(97:Int)≤87+(d:Int):=by omega
                          have t102':87+(d:Int)≤102:=by omega
                          clear t97 t102
                          by_cases cK:K < 16
                          · have tK:(K:Int) < 16:=by omega
                            have hM:=HM.out.low16 cK
                            have HM2:Hid (Most 16 (K+1) 16 (M*16+d)):=HM.out.step (by decide) hd16 cK
                            as_aux_lemma =>
                              go_wp2_with (first
                                | (go_at_call 143;refine (HL.out _ _).mono ?_;rintro e w' ⟨rfl,rfl⟩)
                                | fail)
                              refine ⟨⟨j+1,M*16+d,N+1,K+1,P,a,true,tr,us,?_,rfl,by go_num,rfl,rfl,rfl,by go_num,by go_num,rfl,by omega,by omega,by omega,by omega,by omega,HM2,True.intro⟩,by simp [intOf];omega⟩
                              congr 1
                              omega
                          · have tK:¬ (K:Int) < 16:=by omega
                            as_aux_lemma =>
                              go_wp2_with (first
                                | (go_at_call 143;refine (HL.out _ _).mono ?_;rintro e w' ⟨rfl,rfl⟩)
                                | fail)
                              exact ⟨⟨j+1,M,N+1,K,P,a,true,true,us,rfl,rfl,by go_num,rfl,rfl,rfl,by go_num,rfl,rfl,by omega,by omega,by omega,by omega,by omega,HM,True.intro⟩,by simp [intOf];omega⟩
                        · as_aux_lemma =>
                            go_wp2_with (first
                              | (go_at_call 143;refine (HL.out _ _).mono ?_;rintro e w' ⟨rfl,rfl⟩)
                              | fail)
                            go_meet
                            exact ⟨j,M,N,K,P,a,b,tr,us,rfl,rfl,rfl,rfl,rfl,rfl,rfl,rfl,rfl,hj,hN,hK,hP0,hP1,HM,rfl⟩
                      · as_aux_lemma =>
                          go_wp2_with (first
                            | (go_at_call 143;refine (HL.out _ _).mono ?_;rintro e w' ⟨rfl,rfl⟩)
                            | fail)
                          go_meet
                          exact ⟨j,M,N,K,P,a,b,tr,us,rfl,rfl,rfl,rfl,rfl,rfl,rfl,rfl,rfl,hj,hN,hK,hP0,hP1,HM,rfl⟩
                  · have t48:¬ (48:Int)≤(((ByteArray.mk l.toArray)[j]'hBj).toNat:Int):=by rw [hbj];omega
                    clear hbj c48 cdg c46 c95
                    rcases HW.out with ⟨rfl,rfl,rfl,rfl⟩ | ⟨rfl,rfl,rfl,rfl⟩
                    · as_aux_lemma =>
                        go_wp2_with fail
                        go_meet
                        exact ⟨j,M,N,K,P,a,b,tr,us,rfl,rfl,rfl,rfl,rfl,rfl,rfl,rfl,rfl,hj,hN,hK,hP0,hP1,HM,rfl⟩
                    · rw [show ((16:Nat):Int)=(16:Int) from rfl,show ((112:Nat):Int)=(112:Int) from rfl]
                      by_cases t97:(97:Int)≤bits .or .u8 (((ByteArray.mk l.toArray)[j]'hBj).toNat:Int) 32
                      · by_cases t102:bits .or .u8 (((ByteArray.mk l.toArray)[j]'hBj).toNat:Int) 32≤102
                        · obtain ⟨d,hd,hd9,hd16⟩:∃ d:Nat,bits .or .u8 (((ByteArray.mk l.toArray)[j]'hBj).toNat:Int) 32=87+(d:Int)∧10≤d∧d < 16:=⟨(bits .or .u8 (((ByteArray.mk l.toArray)[j]'hBj).toNat:Int) 32 - 87).toNat,by omega,by omega,by omega⟩
                          have t97':(97:Int)≤87+(d:Int):=by omega
                          have t102':87+(d:Int)≤102:=by omega
                          clear t97 t102
                          by_cases cK:K < 16
                          · have tK:(K:Int) < 16:=by omega
                            have hM:=HM.out.low16 cK
                            have HM2:Hid (Most 16 (K+1) 16 (M*16+d)):=HM.out.step (by decide) hd16 cK
                            as_aux_lemma =>
                              go_wp2_with (first
                                | (go_at_call 143;refine (HL.out _ _).mono ?_;rintro e w' ⟨rfl,rfl⟩)
                                | fail)
                              refine ⟨⟨j+1,M*16+d,N+1,K+1,P,a,true,tr,us,?_,rfl,by go_num,rfl,rfl,rfl,by go_num,by go_num,rfl,by omega,by omega,by omega,by omega,by omega,HM2,True.intro⟩,by simp [intOf];omega⟩
                              congr 1
                              omega
                          · have tK:¬ (K:Int) < 16:=by omega
                            as_aux_lemma =>
                              go_wp2_with (first
                                | (go_at_call 143;refine (HL.out _ _).mono ?_;rintro e w' ⟨rfl,rfl⟩)
                                | fail)
                              exact ⟨⟨j+1,M,N+1,K,P,a,true,true,us,rfl,rfl,by go_num,rfl,rfl,rfl,by go_num,rfl,rfl,by omega,by omega,by omega,by omega,by omega,HM,True.intro⟩,by simp [intOf];omega⟩
                        · as_aux_lemma =>
                            go_wp2_with (first
                              | (go_at_call 143;refine (HL.out _ _).mono ?_;rintro e w' ⟨rfl,rfl⟩)
                              | fail)
                            go_meet
                            exact ⟨j,M,N,K,P,a,b,tr,us,rfl,rfl,rfl,rfl,rfl,rfl,rfl,rfl,rfl,hj,hN,hK,hP0,hP1,HM,rfl⟩
                      · as_aux_lemma =>
                          go_wp2_with (first
                            | (go_at_call 143;refine (HL.out _ _).mono ?_;rintro e w' ⟨rfl,rfl⟩)
                            | fail)
                          go_meet
                          exact ⟨j,M,N,K,P,a,b,tr,us,rfl,rfl,rfl,rfl,rfl,rfl,rfl,rfl,rfl,hj,hN,hK,hP0,hP1,HM,rfl⟩
          · have hlt':¬ (j:Int) < (l.length:Int):=by omega
            as_aux_lemma =>
              go_wp2_with fail
              go_meet
              exact ⟨j,M,N,K,P,a,b,tr,us,rfl,rfl,rfl,rfl,rfl,rfl,rfl,rfl,rfl,hj,hN,hK,hP0,hP1,HM,rfl⟩
    case rest =>
    as_aux_lemma =>
    obtain ⟨j,M,N,K,P,a,b,tr,us,rfl,rfl,rfl,rfl,rfl,rfl,rfl,rfl,rfl,hj,hN,hK,hP0,hP1,HM,rfl⟩:=hcut
    have HT:Hid _:=HM.out.top HW.out
    clear HM
    cases b
    · as_aux_lemma =>
        go_wp2_with fail
        try rw [Exit.noGoto_ret]
        show bodyPost _ _ _ _ _ _
        simp [bodyPost,results,Tryz.results182,go_sem]
        exact ⟨M,0,ng,tr,hx,j,false,rfl,HT.out.1,HT.out.2,by omega,by omega,hj⟩
    · go_upto_if 142 with fail
      go_cut [17] from 21 (fun s W=>∃ P:Int,s=.int .i64 P∧-25≤P∧P≤25∧W=wc)
      case first =>
        as_aux_lemma =>
          cases a
          · go_wp2_with fail
            go_meet
            exact ⟨N,rfl,by omega,by omega,rfl⟩
          · go_wp2_with fail
            go_meet
            exact ⟨P,rfl,by omega,by omega,rfl⟩
      case rest =>
      as_aux_lemma =>
      clear hP0 hP1
      obtain ⟨P,rfl,hP0,hP1,rfl⟩:=hcut
      go_upto_if 145 with fail
      go_cut [16,17] from 21 (fun s t W=>∃ (K:Nat) (P:Int),s=.int .i64 (K:Int)∧t=.int .i64 P∧K≤100∧-100≤P∧P≤100∧W=wc)
      case first =>
        rcases HW.out with ⟨rfl,rfl,rfl,rfl⟩ | ⟨rfl,rfl,rfl,rfl⟩
        · as_aux_lemma =>
            go_wp2_with fail
            go_meet
            exact ⟨K,P,rfl,rfl,by omega,by omega,by omega,rfl⟩
        · as_aux_lemma =>
            go_wp2_with fail
            go_meet
            exact ⟨K*4,P*4,congrArg (Value.int .i64) (by omega),rfl,by omega,by omega,by omega,rfl⟩
      case rest =>
      as_aux_lemma =>
      clear hK hN hP0 hP1
      obtain ⟨K,P,rfl,rfl,hK,hP0,hP1,rfl⟩:=hcut
      go_upto_region 57 with fail
      go_cut [161] from 21 (fun s W=>∃ b:Bool,s=.bool b∧(b=true→j < l.length)∧W=wc)
      case first =>
        by_cases hlt:j < l.length
        · have hlt':(j:Int) < (l.length:Int):=by omega
          have hBj:j < (ByteArray.mk l.toArray).size:=by show j < l.toArray.size;simpa using hlt
          as_aux_lemma =>
            go_wp2_with (first
              | (go_at_call 143;refine (HL.out _ _).mono ?_;rintro e w' ⟨rfl,rfl⟩)
              | fail)
            go_meet
            exact ⟨_,rfl,(fun _=>hlt),rfl⟩
        · have hlt':¬ (j:Int) < (l.length:Int):=by omega
          as_aux_lemma =>
            go_wp2_with fail
            go_meet
            exact ⟨false,rfl,(fun h=>by cases h),rfl⟩
      case rest =>
      as_aux_lemma =>
      obtain ⟨bb,rfl,hbb,rfl⟩:=hcut
      go_upto_if 161 with fail
      go_cut [7,9,17,19,20] from 21 (fun i un dp _ _ W=>∃ (j:Nat) (us:Bool) (P:Int),i=.int .i64 (j:Int)∧j≤l.length∧un=.bool us∧dp=.int .i64 P∧-300000≤P∧P≤300000∧W=wc)
      case first =>
        cases bb
        · rcases HW.out with ⟨rfl,rfl,rfl,rfl⟩ | ⟨rfl,rfl,rfl,rfl⟩
          · as_aux_lemma =>
              go_wp2_with fail
              go_meet
              exact ⟨j,us,P,rfl,hj,rfl,rfl,by omega,by omega,rfl⟩
          · as_aux_lemma =>
              go_wp2_with fail
              try rw [Exit.noGoto_ret]
              show bodyPost _ _ _ _ _ _
              simp [bodyPost,results,Tryz.results182,go_sem]
              exact ⟨M,0,ng,tr,true,j,false,rfl,HT.out.1,HT.out.2,by omega,by omega,hj⟩
        · have hlt:=hbb rfl
          have hlt':(j:Int) < (l.length:Int):=by omega
          by_cases hlt1:j+1 < l.length
          · have hlt1':(j:Int)+1 < (l.length:Int):=by omega
            have hB1:j+1 < (ByteArray.mk l.toArray).size:=by show j+1 < l.toArray.size;simpa using hlt1
            go_upto_block 4 with fail
            go_cut [7,19] from 21 (fun i s W=>∃ (st:Nat) (sg:Int),i=.int .i64 (st:Int)∧st≤l.length∧s=.int .i64 sg∧(sg=1∨sg=-1)∧W=wc)
            case first =>
              as_aux_lemma =>
                go_wp2_with fail
                all_goals (go_meet;first | exact ⟨j+1,1,congrArg (Value.int .i64) (by omega),by omega,rfl,Or.inl rfl,rfl⟩ | exact ⟨j+2,1,congrArg (Value.int .i64) (by omega),by omega,rfl,Or.inl rfl,rfl⟩ | exact ⟨j+2,-1,congrArg (Value.int .i64) (by omega),by omega,rfl,Or.inr rfl,rfl⟩)
            case rest =>
            as_aux_lemma =>
            obtain ⟨st,sg,rfl,hst,rfl,hsg,rfl⟩:=hcut
            by_cases hs:st < l.length
            · have hs':(st:Int) < (l.length:Int):=by omega
              have hs2:¬ (l.length:Int)≤(st:Int):=by omega
              have hBs:st < (ByteArray.mk l.toArray).size:=by show st < l.toArray.size;simpa using hs
              have hbs:((ByteArray.mk l.toArray)[st]'hBs).toNat=l[st].toNat:=rfl
              by_cases u:l[st].toNat < 48
              · have u48:(((ByteArray.mk l.toArray)[st]'hBs).toNat:Int) < 48:=by rw [hbs];omega
                clear hbs u
                as_aux_lemma =>
                  go_wp2_with fail
                  try rw [Exit.noGoto_ret]
                  show bodyPost _ _ _ _ _ _
                  simp [bodyPost,results,Tryz.results182,go_sem]
                  exact ⟨M,0,ng,tr,hx,st,false,rfl,HT.out.1,HT.out.2,by omega,by omega,hst⟩
              · have u48:¬ (((ByteArray.mk l.toArray)[st]'hBs).toNat:Int) < 48:=by rw [hbs];omega
                by_cases v:57 < l[st].toNat
                · have u57:(57:Int) < (((ByteArray.mk l.toArray)[st]'hBs).toNat:Int):=by rw [hbs];omega
                  clear hbs u v
                  as_aux_lemma =>
                    go_wp2_with fail
                    try rw [Exit.noGoto_ret]
                    show bodyPost _ _ _ _ _ _
                    simp [bodyPost,results,Tryz.results182,go_sem]
                    exact ⟨M,0,ng,tr,hx,st,false,rfl,HT.out.1,HT.out.2,by omega,by omega,hst⟩
                · have u57:¬ (57:Int) < (((ByteArray.mk l.toArray)[st]'hBs).toNat:Int):=by rw [hbs];omega
                  clear hbs u v
                  as_aux_lemma =>
                    go_wp2_with fail
                    go_loopw [7,9,20] (fun i un ev W=>∃ (k E:Nat) (us:Bool),k≤l.length∧i=.int .i64 (k:Int)∧un=.bool us∧ev=.int .i64 (E:Int)∧E≤100000∧W=wc) (fun i _ _ _=>l.length - (intOf i).toNat)
                    case atStart=>exact ⟨st,0,us,by omega,rfl,rfl,rfl,by omega,rfl⟩
                    case round =>
                      clear u48 u57
                      obtain ⟨k,E,us,hk,rfl,rfl,rfl,hE,rfl⟩:=hrel
                      by_cases hkl:k < l.length
                      · have hkl':(k:Int) < (l.length:Int):=by omega
                        have hBk:k < (ByteArray.mk l.toArray).size:=by show k < l.toArray.size;simpa using hkl
                        have hbk:((ByteArray.mk l.toArray)[k]'hBk).toNat=l[k].toNat:=rfl
                        by_cases cdg:48≤l[k].toNat∧l[k].toNat≤57
                        · have v48:(48:Int)≤(((ByteArray.mk l.toArray)[k]'hBk).toNat:Int):=by rw [hbk];omega
                          have v57:(((ByteArray.mk l.toArray)[k]'hBk).toNat:Int)≤57:=by rw [hbk];omega
                          have v95:((((ByteArray.mk l.toArray)[k]'hBk).toNat:Int) == 95)=false:=by rw [beq_eq_false_iff_ne,hbk];omega
                          by_cases vE:(E:Int) < 10000
                          · as_aux_lemma =>
                              clear hbk
                              go_wp2_with fail
                              refine ⟨⟨k+1,E*10+(l[k].toNat - 48),us,by omega,by go_num,rfl,?_,by omega,True.intro⟩,by simp [intOf];omega⟩
                              show Value.int .i64 ((E:Int)*10+(l[k].toNat:Int) - 48)=_
                              congr 1
                              omega
                          · as_aux_lemma =>
                              clear hbk cdg
                              go_wp2_with fail
                              exact ⟨⟨k+1,E,us,by omega,by go_num,rfl,rfl,by omega,True.intro⟩,by simp [intOf];omega⟩
                        · by_cases c95:l[k].toNat=95
                          · have v48:(48:Int)≤(((ByteArray.mk l.toArray)[k]'hBk).toNat:Int):=by rw [hbk];omega
                            have v57:¬ (((ByteArray.mk l.toArray)[k]'hBk).toNat:Int)≤57:=by rw [hbk];omega
                            have v95:((((ByteArray.mk l.toArray)[k]'hBk).toNat:Int) == 95)=true:=by rw [beq_iff_eq,hbk];omega
                            as_aux_lemma =>
                              clear hbk cdg c95
                              go_wp2_with fail
                              exact ⟨⟨k+1,E,true,by omega,by go_num,rfl,rfl,by omega,True.intro⟩,by simp [intOf];omega⟩
                          · have v95:((((ByteArray.mk l.toArray)[k]'hBk).toNat:Int) == 95)=false:=by rw [beq_eq_false_iff_ne,hbk];omega
                            by_cases c48:48≤l[k].toNat
                            · have v48:(48:Int)≤(((ByteArray.mk l.toArray)[k]'hBk).toNat:Int):=by rw [hbk];omega
                              have v57:¬ (((ByteArray.mk l.toArray)[k]'hBk).toNat:Int)≤57:=by rw [hbk];omega
                              clear hbk cdg c95 c48
                              as_aux_lemma =>
                                rcases hsg with rfl | rfl
                                · go_wp2_with fail
                                  go_meet
                                  exact ⟨k,us,_,rfl,hk,rfl,rfl,by omega,by omega,rfl⟩
                                · go_wp2_with fail
                                  go_meet
                                  exact ⟨k,us,_,rfl,hk,rfl,rfl,by omega,by omega,rfl⟩
                            · have v48:¬ (48:Int)≤(((ByteArray.mk l.toArray)[k]'hBk).toNat:Int):=by rw [hbk];omega
                              clear hbk cdg c95 c48
                              as_aux_lemma =>
                                rcases hsg with rfl | rfl
                                · go_wp2_with fail
                                  go_meet
                                  exact ⟨k,us,_,rfl,hk,rfl,rfl,by omega,by omega,rfl⟩
                                · go_wp2_with fail
                                  go_meet
                                  exact ⟨k,us,_,rfl,hk,rfl,rfl,by omega,by omega,rfl⟩
                      · have hkl':¬ (k:Int) < (l.length:Int):=by omega
                        as_aux_lemma =>
                          rcases hsg with rfl | rfl
                          · go_wp2_with fail
                            go_meet
                            exact ⟨k,us,_,rfl,hk,rfl,rfl,by omega,by omega,rfl⟩
                          · go_wp2_with fail
                            go_meet
                            exact ⟨k,us,_,rfl,hk,rfl,rfl,by omega,by omega,rfl⟩
            · have hs':(l.length:Int)≤(st:Int):=by omega
              as_aux_lemma =>
                go_wp2_with fail
                try rw [Exit.noGoto_ret]
                show bodyPost _ _ _ _ _ _
                simp [bodyPost,results,Tryz.results182,go_sem]
                exact ⟨M,0,ng,tr,hx,st,false,rfl,HT.out.1,HT.out.2,by omega,by omega,hst⟩
          · have hlt1':(l.length:Int)≤(j:Int)+1:=by omega
            as_aux_lemma =>
              go_wp2_with fail
              try rw [Exit.noGoto_ret]
              show bodyPost _ _ _ _ _ _
              simp [bodyPost,results,Tryz.results182,go_sem]
              exact ⟨M,0,ng,tr,hx,j+1,false,(by first | rfl | simp),HT.out.1,HT.out.2,by omega,by omega,by omega⟩
      case rest =>
      as_aux_lemma =>
      clear hj hbb hP0 hP1
      obtain ⟨j,us,P,rfl,hj,rfl,rfl,hP0,hP1,rfl⟩:=hcut
      go_upto_if 241 with fail
      go_cut [3] from 21 (fun s W=>∃ x:Int,s=.int .i64 x∧-400000≤x∧x≤400000∧W=wc)
      case first =>
        as_aux_lemma =>
          go_wp2_with fail
          all_goals (go_meet;first | exact ⟨0,rfl,by omega,by omega,rfl⟩ | exact ⟨P - (K:Int),rfl,by omega,by omega,rfl⟩)
      case rest =>
      as_aux_lemma =>
      obtain ⟨x,rfl,hx0,hx1,rfl⟩:=hcut
      cases us
      · as_aux_lemma =>
          go_wp2_with fail
          try rw [Exit.noGoto_ret]
          show bodyPost _ _ _ _ _ _
          simp [bodyPost,results,Tryz.results182,go_sem]
          exact ⟨M,x,ng,tr,hx,j,true,rfl,HT.out.1,HT.out.2,by omega,by omega,hj⟩
      · have HU:Hid (Calls Tryz.prog 172 #[.string ((ByteArray.mk l.toArray).extract 0 j)] wc fun e w'=>TellsB e∧w'=wc):=by
          have:=under_some (l.take j) (by rw [List.length_take];omega) wc
          rw [← take_bytes] at this
          exact this
        have hj':(j:Int)≤(l.length:Int):=by omega
        go_wp2_with fail
        refine Calls.mono HU.out ?_
        rintro e w' ⟨⟨ob,rfl⟩,rfl⟩
        cases ob
        · as_aux_lemma =>
            go_wp2_with fail
            try rw [Exit.noGoto_ret]
            show bodyPost _ _ _ _ _ _
            simp [bodyPost,results,Tryz.results182,go_sem]
            exact ⟨M,x,ng,tr,hx,j,false,rfl,HT.out.1,HT.out.2,by omega,by omega,hj⟩
        · as_aux_lemma =>
            go_wp2_with fail
            try rw [Exit.noGoto_ret]
            show bodyPost _ _ _ _ _ _
            simp [bodyPost,results,Tryz.results182,go_sem]
            exact ⟨M,x,ng,tr,hx,j,true,rfl,HT.out.1,HT.out.2,by omega,by omega,hj⟩
end Go.Proofs.YtifapjammoahgaaGreatDoor.Rl
