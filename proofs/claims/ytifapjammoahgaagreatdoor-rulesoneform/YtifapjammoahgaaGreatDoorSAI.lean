/- WHAT readFloat ANSWERS. Own work of the verifier. -/
import Derived.Test.YtifapjammoahgaaGreatDoorSAH
import Derived.Test.YtifapjammoahgaaGreatDoorShelf
namespace Go.Proofs.YtifapjammoahgaaGreatDoor.Rl
open Go.RowKit
theorem take_bytes (l:List UInt8) (j:Nat):(ByteArray.mk l.toArray).extract 0 j=⟨(l.take j).toArray⟩:=by
  apply ByteArray.ext
  rw [ByteArray.data_extract]
  simp
def TellsR (l:List UInt8) (e:Ending):Prop:=∃ (M:Nat) (x:Int) (ng tr hx:Bool) (i:Nat) (ok:Bool),e=.returned (.tuple #[.int .u64 (M:Int),.int .i64 x,.bool ng,.bool tr,.bool hx,.int .i64 (i:Int),.bool ok])∧M < 18446744073709551616∧(hx=false→M < 10000000000000000000)∧-400000≤x∧x≤400000∧i≤l.length
def Way (hx:Bool) (B mx ec:Nat):Prop:=hx=false∧B=10∧mx=19∧ec=101∨hx=true∧B=16∧mx=16∧ec=112
def Most (B K mx M:Nat):Prop:=M < B ^ K∧K≤mx
theorem Most.zero (B mx:Nat):Most B 0 mx 0:=⟨by simp,Nat.zero_le _⟩
theorem Most.top {hx:Bool} {B mx ec K M:Nat} (h:Most B K mx M) (w:Way hx B mx ec):M < 18446744073709551616∧(hx=false→M < 10000000000000000000):=by
  obtain ⟨h1,h2⟩:=h
  rcases w with ⟨rfl,rfl,rfl,rfl⟩ | ⟨rfl,rfl,rfl,rfl⟩
  · have:10 ^ K≤10 ^ 19:=Nat.pow_le_pow_right (by decide) h2
    exact ⟨by omega,fun _=>by omega⟩
  · have:16 ^ K≤16 ^ 16:=Nat.pow_le_pow_right (by decide) h2
    exact ⟨by omega,fun h=>by cases h⟩
theorem Most.step {B mx K M d:Nat} (h:Most B K mx M) (_hB:1≤B) (hd:d < B) (hK:K < mx):Most B (K+1) mx (M*B+d):=by
  obtain ⟨h1,h2⟩:=h
  refine ⟨?_,hK⟩
  rw [Nat.pow_succ]
  calc M*B+d < M*B+B:=by omega
    _=(M+1)*B:=by rw [Nat.add_mul,Nat.one_mul]
    _≤B ^ K*B:=Nat.mul_le_mul_right _ h1
theorem Most.low10 {K M:Nat} (h:Most 10 K 19 M) (hK:K < 19):M < 1000000000000000000:=by
  have:10 ^ K≤10 ^ 18:=Nat.pow_le_pow_right (by decide) (by omega)
  have:=h.1
  omega
theorem Most.low16 {K M:Nat} (h:Most 16 K 16 M) (hK:K < 16):M < 1152921504606846976:=by
  have:16 ^ K≤16 ^ 15:=Nat.pow_le_pow_right (by decide) (by omega)
  have:=h.1
  omega
end Go.Proofs.YtifapjammoahgaaGreatDoor.Rl
/- decimal.set. Own work of the verifier. -/
set_option maxRecDepth 100000
set_option maxHeartbeats 4000000
namespace Go.Proofs.YtifapjammoahgaaGreatDoor.Rl
open Go.RowKit
def DecS (g n:Nat) (dp:Int) (w wr:World):Prop:=∃ D ng tr,DecAt g D n dp ng tr wr∧(n=0∨Good D n)∧Below g w wr
def SetTo (g:Nat) (w:World) (e:Ending) (w':World):Prop:=∃ (b:Bool) (n:Nat) (dp:Int),e=.returned (.bool b)∧-300000≤dp∧dp≤300000∧DecS g n dp w w'
theorem Good.push {D:Nat→Nat} {n v:Nat} (h:n=0∨Good D n) (hn:n < 800) (hv:48≤v∧v≤57) (h0:n=0→v≠48):Good (upd D n v) (n+1):=by
  refine ⟨by omega,by omega,fun i hi=>?_,?_⟩
  · by_cases c:i=n
    · subst c;rw [upd_same];exact hv
    · rw [upd_other D _ _ c]
      rcases h with h | h
      · omega
      · exact h.dig i (by omega)
  · rcases h with h | h
    · subst h;rw [upd_same];have:=h0 rfl;omega
    · have:=h.pos;rw [upd_other D _ _ (by omega)];exact h.fst
theorem set_some (l:List UInt8) (hl:l.length≤25) (g:Nat) (D:Nat→Nat) (ng tr:Bool) (w:World) (h:DecAt g D 0 0 ng tr w) :
    Calls Tryz.prog 188 #[.pointer (some ⟨g,0,none⟩),.string ⟨l.toArray⟩] w fun e w'=>SetTo g w e w':=by
  have hlen:(l.length:Int)≤25:=by omega
  have H0:Hid (DecS g 0 0 w ((w.setCell ⟨g,802,none⟩ (.bool false)).setCell ⟨g,803,none⟩ (.bool false))):=⟨D,false,false,(h.setNeg false).setTr false,Or.inl rfl,((Below.refl g w).setCell (p:=⟨g,802,none⟩) (Nat.le_refl _) _).setCell (p:=⟨g,803,none⟩) (Nat.le_refl _) _⟩
  have H1:Hid (DecS g 0 0 w (((w.setCell ⟨g,802,none⟩ (.bool false)).setCell ⟨g,803,none⟩ (.bool false)).setCell ⟨g,802,none⟩ (.bool true))):=⟨D,true,false,((h.setNeg false).setTr false).setNeg true,Or.inl rfl,(((Below.refl g w).setCell (p:=⟨g,802,none⟩) (Nat.le_refl _) _).setCell (p:=⟨g,803,none⟩) (Nat.le_refl _) _).setCell (p:=⟨g,802,none⟩) (Nat.le_refl _) _⟩
  have c1:=h.neg
  have c2:=h.tr
  have f1:=h.fr 802
  have f2:=h.fr 803
  clear h
  cases l with
  | nil =>
    go_enter Tryz.func188,Tryz.ntmps188
    go_wp2_with fail
    go_ret
    exact ⟨false,0,0,rfl,by omega,by omega,H0.out⟩
  | cons c0 r0 =>
    have hB0:0 < (ByteArray.mk (c0::r0).toArray).size:=by show 0 < (c0::r0).toArray.size;simp
    have hl0:0 < (c0::r0).length:=by simp
    have hne:¬ (c0::r0)=[]:=by simp
    generalize c0::r0=l at *
    go_enter Tryz.func188,Tryz.ntmps188
    go_upto_block 0 with fail
    go_cut [5] from 10 (fun i W=>∃ j:Nat,i=.int .i64 (j:Int)∧j≤1∧Hid (DecS g 0 0 w W))
    case first =>
      as_aux_lemma =>
        go_wp2_with fail
        all_goals (go_meet;first | exact ⟨1,rfl,by omega,H0⟩ | exact ⟨1,rfl,by omega,H1⟩ | exact ⟨0,rfl,by omega,H0⟩)
    case rest =>
    obtain ⟨j0,rfl,hj0,HD⟩:=hcut
    clear H0 H1 c1 c2 f1 f2
    go_upto_block 1 with fail
    go_cut [5,6,7] from 10 (fun i sd sg W=>∃ (j n:Nat) (dp:Int) (a b:Bool),i=.int .i64 (j:Int)∧sd=.bool a∧sg=.bool b∧j≤l.length∧n≤25∧-25≤dp∧dp≤25∧Hid (DecS g n dp w W))
    case first =>
      as_aux_lemma =>
        go_wp2_with fail
        go_loopw [5,6,7] (fun i sd sg W=>∃ (j n:Nat) (dp:Int) (a b:Bool),i=.int .i64 (j:Int)∧sd=.bool a∧sg=.bool b∧j≤l.length∧n≤j∧-(j:Int)≤dp∧dp≤(j:Int)∧Hid (DecS g n dp w W)) (fun i _ _ _=>l.length - (intOf i).toNat)
        case atStart=>exact ⟨j0,0,0,false,false,rfl,rfl,rfl,by omega,by omega,by omega,by omega,HD⟩
        case round =>
          clear HD
          obtain ⟨j,n,dp,a,b,rfl,rfl,rfl,hj,hnj,hd0,hd1,HD⟩:=hrel
          obtain ⟨E,ng,tr,hI,hGd,hb⟩:=HD.out
          have HI:Hid _:=hI
          have HGd:Hid _:=hGd
          by_cases hlt:j < l.length
          · have hlt':(j:Int) < (l.length:Int):=by omega
            have hBj:j < (ByteArray.mk l.toArray).size:=by show j < l.toArray.size;simpa using hlt
            have hbj:((ByteArray.mk l.toArray)[j]'hBj).toNat=l[j].toNat:=rfl
            have cn:=hI.nd
            have cd:=hI.dp
            have fn:=hI.fr 800
            have fd:=hI.fr 801
            clear hI hGd
            by_cases c95:l[j].toNat=95
            · have t95:((((ByteArray.mk l.toArray)[j]'hBj).toNat:Int) == 95)=true:=by rw [beq_iff_eq,hbj];omega
              clear hbj c95
              as_aux_lemma =>
                go_wp2_with fail
                exact ⟨⟨j+1,n,dp,a,b,by go_num,rfl,rfl,by omega,by omega,by omega,by omega,HD⟩,by simp [intOf];omega⟩
            · have t95:((((ByteArray.mk l.toArray)[j]'hBj).toNat:Int) == 95)=false:=by rw [beq_eq_false_iff_ne,hbj];omega
              by_cases c46:l[j].toNat=46
              · have t46:((((ByteArray.mk l.toArray)[j]'hBj).toNat:Int) == 46)=true:=by rw [beq_iff_eq,hbj];omega
                clear hbj c46 c95
                cases a
                · as_aux_lemma =>
                    go_wp2_with fail
                    exact ⟨⟨j+1,n,n,true,b,by go_num,rfl,rfl,by omega,by omega,by omega,by omega,E,ng,tr,HI.out.setDp _,HGd.out,hb.setCell (Nat.le_refl _) _⟩,by simp [intOf];omega⟩
                · as_aux_lemma =>
                    go_wp2_with fail
                    go_ret
                    exact ⟨false,n,dp,rfl,by omega,by omega,HD.out⟩
              · have t46:((((ByteArray.mk l.toArray)[j]'hBj).toNat:Int) == 46)=false:=by rw [beq_eq_false_iff_ne,hbj];omega
                by_cases cdg:48≤l[j].toNat∧l[j].toNat≤57
                · have t48:(48:Int)≤(((ByteArray.mk l.toArray)[j]'hBj).toNat:Int):=by rw [hbj];omega
                  have t57:(((ByteArray.mk l.toArray)[j]'hBj).toNat:Int)≤57:=by rw [hbj];omega
                  by_cases cz:l[j].toNat=48∧n=0
                  · obtain ⟨c0,rfl⟩:=cz
                    have t0:((((ByteArray.mk l.toArray)[j]'hBj).toNat:Int) == 48)=true:=by rw [beq_iff_eq,hbj];omega
                    clear hbj c0 cdg c46 c95
                    as_aux_lemma =>
                      go_wp2_with fail
                      exact ⟨⟨j+1,0,dp - 1,a,true,by go_num,rfl,rfl,by omega,by omega,by omega,by omega,E,ng,tr,HI.out.setDp _,HGd.out,hb.setCell (Nat.le_refl _) _⟩,by simp [intOf];omega⟩
                  · have HN:Hid (Good (upd E n l[j].toNat) (n+1)):=Good.push HGd.out (by omega) cdg (fun h hz=>cz ⟨hz,h⟩)
                    have c3:=HI.out.dig n (by omega)
                    have f3:=HI.out.fr n
                    have n8:(n:Int) < 800:=by omega
                    by_cases c0:l[j].toNat=48
                    · have t0:((((ByteArray.mk l.toArray)[j]'hBj).toNat:Int) == 48)=true:=by rw [beq_iff_eq,hbj];omega
                      have tn:((n:Int) == 0)=false:=by rw [beq_eq_false_iff_ne];omega
                      clear hbj c0 cdg c46 c95 cz
                      as_aux_lemma =>
                        go_wp2_with fail
                        go_region
                        go_wp2_with fail
                        exact ⟨⟨j+1,n+1,dp,a,true,by go_num,rfl,rfl,by omega,by omega,by omega,by omega,upd E n l[j].toNat,ng,tr,((HI.out.setDig n _ (by omega)).setNd (n+1)).drew,Or.inr HN.out,((hb.setCell (Nat.le_refl _) _).setCell (Nat.le_refl _) _).drew⟩,by simp [intOf];omega⟩
                    · have t0:((((ByteArray.mk l.toArray)[j]'hBj).toNat:Int) == 48)=false:=by rw [beq_eq_false_iff_ne,hbj];omega
                      clear hbj c0 cdg c46 c95 cz
                      as_aux_lemma =>
                        go_wp2_with fail
                        go_region
                        go_wp2_with fail
                        exact ⟨⟨j+1,n+1,dp,a,true,by go_num,rfl,rfl,by omega,by omega,by omega,by omega,upd E n l[j].toNat,ng,tr,((HI.out.setDig n _ (by omega)).setNd (n+1)).drew,Or.inr HN.out,((hb.setCell (Nat.le_refl _) _).setCell (Nat.le_refl _) _).drew⟩,by simp [intOf];omega⟩
                · clear HI HGd
                  have hx:decide ((48:Int)≤(((ByteArray.mk l.toArray)[j]'hBj).toNat:Int))=decide (48≤l[j].toNat):=by rw [hbj];exact decide_eq_decide.2 (by omega)
                  by_cases c48:48≤l[j].toNat
                  · have t48:(48:Int)≤(((ByteArray.mk l.toArray)[j]'hBj).toNat:Int):=by rw [hbj];omega
                    have t57:¬ (((ByteArray.mk l.toArray)[j]'hBj).toNat:Int)≤57:=by rw [hbj];omega
                    clear hbj c48 cdg c46 c95 hx
                    as_aux_lemma =>
                      go_wp2_with fail
                      go_meet
                      exact ⟨j,n,dp,a,b,rfl,rfl,rfl,by omega,by omega,by omega,by omega,HD⟩
                  · have t48:¬ (48:Int)≤(((ByteArray.mk l.toArray)[j]'hBj).toNat:Int):=by rw [hbj];omega
                    clear hbj c48 cdg c46 c95 hx
                    as_aux_lemma =>
                      go_wp2_with fail
                      go_meet
                      exact ⟨j,n,dp,a,b,rfl,rfl,rfl,by omega,by omega,by omega,by omega,HD⟩
          · have hlt':¬ (j:Int) < (l.length:Int):=by omega
            clear HI HGd hI hGd
            as_aux_lemma =>
              go_wp2_with fail
              go_meet
              exact ⟨j,n,dp,a,b,rfl,rfl,rfl,by omega,by omega,by omega,by omega,HD⟩
    case rest =>
    obtain ⟨j,n,dp,a,b,rfl,rfl,rfl,hj,hn,hd0,hd1,HD⟩:=hcut
    cases b
    · as_aux_lemma =>
        go_wp2_with fail
        go_ret
        exact ⟨false,n,dp,rfl,by omega,by omega,HD.out⟩
    · go_upto_if 120 with fail
      go_cut [] from 10 (fun W=>∃ dp':Int,-25≤dp'∧dp'≤25∧Hid (DecS g n dp' w W))
      case first =>
        obtain ⟨E,ng,tr,hI,hGd,hb⟩:=HD.out
        have HI:Hid _:=hI
        have HGd:Hid _:=hGd
        have cn:=hI.nd
        have cd:=hI.dp
        have fd:=hI.fr 801
        clear hI hGd
        as_aux_lemma =>
          cases a
          · go_wp2_with fail
            go_meet
            exact ⟨n,by omega,by omega,E,ng,tr,HI.out.setDp _,HGd.out,hb.setCell (Nat.le_refl _) _⟩
          · go_wp2_with fail
            go_meet
            exact ⟨dp,by omega,by omega,HD⟩
      case rest =>
      clear HD hd0 hd1
      obtain ⟨dp,hd0,hd1,HD⟩:=hcut
      by_cases hlt:j < l.length
      · have hlt':(j:Int) < (l.length:Int):=by omega
        have hBj:j < (ByteArray.mk l.toArray).size:=by show j < l.toArray.size;simpa using hlt
        have HL:Hid _:=fun (x:Int) (W:World)=>Tryz.internal_strconv_lower x W
        go_upto_if 138 with (first
          | (go_at_call 143;refine (HL.out _ _).mono ?_;rintro e w' ⟨rfl,rfl⟩)
          | fail)
        clear HL
        go_cut [5,8,9] from 10 (fun i _ _ W=>∃ (j:Nat) (dp':Int),i=.int .i64 (j:Int)∧-300000≤dp'∧dp'≤300000∧Hid (DecS g n dp' w W))
        case first =>
          rcases Bool.eq_false_or_eq_true (bits .or .u8 (((ByteArray.mk l.toArray)[j]'hBj).toNat:Int) 32 == 101) with hbb | hbb
          · by_cases hlt1:j+1 < l.length
            · have hlt1':(j:Int)+1 < (l.length:Int):=by omega
              have hB1:j+1 < (ByteArray.mk l.toArray).size:=by show j+1 < l.toArray.size;simpa using hlt1
              go_upto_block 4 with fail
              go_cut [5,8] from 10 (fun i s W=>∃ (st:Nat) (sg:Int),i=.int .i64 (st:Int)∧st≤l.length∧s=.int .i64 sg∧(sg=1∨sg=-1)∧Hid (DecS g n dp w W))
              case first =>
                as_aux_lemma =>
                  go_wp2_with fail
                  all_goals (go_meet;first | exact ⟨j+1,1,congrArg (Value.int .i64) (by omega),by omega,rfl,Or.inl rfl,HD⟩ | exact ⟨j+2,1,congrArg (Value.int .i64) (by omega),by omega,rfl,Or.inl rfl,HD⟩ | exact ⟨j+2,-1,congrArg (Value.int .i64) (by omega),by omega,rfl,Or.inr rfl,HD⟩)
              case rest =>
              clear HD
              obtain ⟨st,sg,rfl,hst,rfl,hsg,HD⟩:=hcut
              by_cases hs:st < l.length
              · have hs':(st:Int) < (l.length:Int):=by omega
                have hs2:¬ (l.length:Int)≤(st:Int):=by omega
                have hBs:st < (ByteArray.mk l.toArray).size:=by show st < l.toArray.size;simpa using hs
                have hbs:((ByteArray.mk l.toArray)[st]'hBs).toNat=l[st].toNat:=rfl
                by_cases u:l[st].toNat < 48
                · have u48:(((ByteArray.mk l.toArray)[st]'hBs).toNat:Int) < 48:=by rw [hbs];omega
                  clear hbs u
                  as_aux_lemma =>
                    go_wp2_with fail
                    go_ret
                    exact ⟨false,n,dp,rfl,by omega,by omega,HD.out⟩
                · have u48:¬ (((ByteArray.mk l.toArray)[st]'hBs).toNat:Int) < 48:=by rw [hbs];omega
                  by_cases v:57 < l[st].toNat
                  · have u57:(57:Int) < (((ByteArray.mk l.toArray)[st]'hBs).toNat:Int):=by rw [hbs];omega
                    clear hbs u v
                    as_aux_lemma =>
                      go_wp2_with fail
                      go_ret
                      exact ⟨false,n,dp,rfl,by omega,by omega,HD.out⟩
                  · have u57:¬ (57:Int) < (((ByteArray.mk l.toArray)[st]'hBs).toNat:Int):=by rw [hbs];omega
                    clear hbs u v
                    as_aux_lemma =>
                      go_wp2_with fail
                      go_loopw [5,9] (fun i ev W=>∃ k E:Nat,k≤l.length∧i=.int .i64 (k:Int)∧ev=.int .i64 (E:Int)∧E≤100000∧W=wc) (fun i _ _=>l.length - (intOf i).toNat)
                      case atStart=>exact ⟨st,0,by omega,rfl,rfl,by omega,rfl⟩
                      case round =>
                        clear u48 u57
                        obtain ⟨k,E,hk,rfl,rfl,hE,rfl⟩:=hrel
                        obtain ⟨X,ng,tr,hI,hGd,hb⟩:=HD.out
                        have HI:Hid _:=hI
                        have HGd:Hid _:=hGd
                        have cd:=hI.dp
                        have fd:=hI.fr 801
                        clear hI hGd
                        by_cases hkl:k < l.length
                        · have hkl':(k:Int) < (l.length:Int):=by omega
                          have hBk:k < (ByteArray.mk l.toArray).size:=by show k < l.toArray.size;simpa using hkl
                          have hbk:((ByteArray.mk l.toArray)[k]'hBk).toNat=l[k].toNat:=rfl
                          by_cases cdg:48≤l[k].toNat∧l[k].toNat≤57
                          · have v48:(48:Int)≤(((ByteArray.mk l.toArray)[k]'hBk).toNat:Int):=by rw [hbk];omega
                            have v57:(((ByteArray.mk l.toArray)[k]'hBk).toNat:Int)≤57:=by rw [hbk];omega
                            have v95:((((ByteArray.mk l.toArray)[k]'hBk).toNat:Int) == 95)=false:=by rw [beq_eq_false_iff_ne,hbk];omega
                            by_cases vE:(E:Int) < 10000
                            · as_aux_lemma =>
                                clear hbk
                                go_wp2_with fail
                                refine ⟨⟨k+1,E*10+(l[k].toNat - 48),by omega,by go_num,?_,by omega,True.intro⟩,by simp [intOf];omega⟩
                                show Value.int .i64 ((E:Int)*10+(l[k].toNat:Int) - 48)=_
                                congr 1
                                omega
                            · as_aux_lemma =>
                                clear hbk cdg
                                go_wp2_with fail
                                exact ⟨⟨k+1,E,by omega,by go_num,rfl,by omega,True.intro⟩,by simp [intOf];omega⟩
                          · by_cases c95:l[k].toNat=95
                            · have v48:(48:Int)≤(((ByteArray.mk l.toArray)[k]'hBk).toNat:Int):=by rw [hbk];omega
                              have v57:¬ (((ByteArray.mk l.toArray)[k]'hBk).toNat:Int)≤57:=by rw [hbk];omega
                              have v95:((((ByteArray.mk l.toArray)[k]'hBk).toNat:Int) == 95)=true:=by rw [beq_iff_eq,hbk];omega
                              as_aux_lemma =>
                                clear hbk cdg c95
                                go_wp2_with fail
                                exact ⟨⟨k+1,E,by omega,by go_num,rfl,by omega,True.intro⟩,by simp [intOf];omega⟩
                            · have v95:((((ByteArray.mk l.toArray)[k]'hBk).toNat:Int) == 95)=false:=by rw [beq_eq_false_iff_ne,hbk];omega
                              by_cases c48:48≤l[k].toNat
                              · have v48:(48:Int)≤(((ByteArray.mk l.toArray)[k]'hBk).toNat:Int):=by rw [hbk];omega
                                have v57:¬ (((ByteArray.mk l.toArray)[k]'hBk).toNat:Int)≤57:=by rw [hbk];omega
                                as_aux_lemma =>
                                  clear hbk cdg c95 c48
                                  rcases hsg with rfl | rfl
                                  · go_wp2_with fail
                                    go_meet
                                    exact ⟨k,_,rfl,by omega,by omega,X,ng,tr,HI.out.setDp _,HGd.out,hb.setCell (Nat.le_refl _) _⟩
                                  · go_wp2_with fail
                                    go_meet
                                    exact ⟨k,_,rfl,by omega,by omega,X,ng,tr,HI.out.setDp _,HGd.out,hb.setCell (Nat.le_refl _) _⟩
                              · have v48:¬ (48:Int)≤(((ByteArray.mk l.toArray)[k]'hBk).toNat:Int):=by rw [hbk];omega
                                as_aux_lemma =>
                                  clear hbk cdg c95 c48
                                  rcases hsg with rfl | rfl
                                  · go_wp2_with fail
                                    go_meet
                                    exact ⟨k,_,rfl,by omega,by omega,X,ng,tr,HI.out.setDp _,HGd.out,hb.setCell (Nat.le_refl _) _⟩
                                  · go_wp2_with fail
                                    go_meet
                                    exact ⟨k,_,rfl,by omega,by omega,X,ng,tr,HI.out.setDp _,HGd.out,hb.setCell (Nat.le_refl _) _⟩
                        · have hkl':¬ (k:Int) < (l.length:Int):=by omega
                          as_aux_lemma =>
                            rcases hsg with rfl | rfl
                            · go_wp2_with fail
                              go_meet
                              exact ⟨k,_,rfl,by omega,by omega,X,ng,tr,HI.out.setDp _,HGd.out,hb.setCell (Nat.le_refl _) _⟩
                            · go_wp2_with fail
                              go_meet
                              exact ⟨k,_,rfl,by omega,by omega,X,ng,tr,HI.out.setDp _,HGd.out,hb.setCell (Nat.le_refl _) _⟩
              · have hs':(l.length:Int)≤(st:Int):=by omega
                as_aux_lemma =>
                  go_wp2_with fail
                  go_ret
                  exact ⟨false,n,dp,rfl,by omega,by omega,HD.out⟩
            · have hlt1':(l.length:Int)≤(j:Int)+1:=by omega
              as_aux_lemma =>
                go_wp2_with fail
                go_ret
                exact ⟨false,n,dp,rfl,by omega,by omega,HD.out⟩
          · as_aux_lemma =>
              go_wp2_with fail
              go_meet
              exact ⟨j,dp,rfl,by omega,by omega,HD⟩
        case rest =>
        clear HD
        obtain ⟨j,dp,rfl,hd0,hd1,HD⟩:=hcut
        as_aux_lemma =>
          go_wp2_with fail
          all_goals (go_ret;first | exact ⟨true,n,dp,rfl,by omega,by omega,HD.out⟩ | exact ⟨false,n,dp,rfl,by omega,by omega,HD.out⟩)
      · have hlt':¬ (j:Int) < (l.length:Int):=by omega
        obtain rfl:j=l.length:=by omega
        as_aux_lemma =>
          go_wp2_with fail
          go_ret
          exact ⟨true,n,dp,rfl,by omega,by omega,HD.out⟩
end Go.Proofs.YtifapjammoahgaaGreatDoor.Rl
