/- Digits: the document's, of layer 2. Own work of the verifier. -/
import Derived.Test.YtibahfopmjiffaaGreatDoorSAL
import Derived.Test.YtibahfopmjiffaaGreatDoorRows
import Derived.RowKit3
import GoSem.PinnedTables
import Derived.Test.YtibahfopmjiffaaGreatDoorSAG
import Derived.WalkMore
import Derived.Deep.DeepCutAuto
import Derived.IntWalk
import Derived.Deep.CutBlock
import Derived.Laws.ShiftsVarLaws
import Derived.Handy
import Derived.OwnWalk
import Derived.Laws.IdiomStrings
import Derived.BigQuiet
set_option maxRecDepth 100000
set_option maxHeartbeats 2000000
namespace Go.Proofs.YtibahfopmjiffaaGreatDoor.Rl
open Go.RowKit Soft
def NumOk:Prop:=∀ (c:Nat) (W:World),c < 18446744073709551616→Calls Tryz.prog 88 #[.int .u64 (c:Int)] W fun e w'=>e=.returned (.string ⟨(Lib.decDigits c).toArray⟩)∧Below W.heap.size W w'
theorem cD_of {b q:Nat} {s h:Int} {s1 s2:Int} (hq:qN b s=q) (hh:hN b s=h) (h1:SideN b q s=s1) (h2:SideN b (q+1) s=s2):cD b s=if s1≠0∨s2=0∧(0 < h∨h=0∧q % 2=1) then q+1 else q:=by
  unfold cD upD
  rw [hq,hh,h1,h2]
  by_cases hx:s1≠0∨s2=0∧(0 < h∨h=0∧q % 2=1)
  · rw [if_pos hx,if_pos hx]
  · rw [if_neg hx,if_neg hx]
theorem ddigits_any (HN:NumOk) (b:Nat) (hb0:1≤b) (hb:b < 9218868437227405312) (w:World) :
    Calls Tryz.prog 87 #[.int .u64 (b:Int)] w fun e w'=>∃ (c:Nat) (x:Int),e=.returned (.tuple #[.int .u64 (c:Int),.int .i64 x])∧DigsOf b c x∧Below w.heap.size w w':=by
  have HT:Hid _:=fun W=>top_any b hb0 hb W
  have HN':Hid (NumOk):=HN
  clear HN
  go_enter Tryz.func87,Tryz.ntmps87
  go_wp2_with fail
  refine (HT.out _).mono ?_
  rintro e w1 ⟨t,rfl,HTop,hb1⟩
  clear HT
  have HTp:Hid (Top b t):=HTop
  have t1:=HTop.1
  have t2:=HTop.2.1
  clear HTop
  go_wp2_with fail
  go_loopw [5] (fun a W=>∃ n:Nat,a=.int .i64 (n:Int)∧1≤n∧n≤18∧Hid (∀ i:Nat,1≤i→i < n→¬ okD b (t - i+1))∧Below w.heap.size w W) (fun a _=>18 - (intOf a).toNat)
  case atStart=>exact ⟨1,rfl,by omega,by omega,(fun i h1 h2=>by omega),hb1⟩
  case round =>
    obtain ⟨n,rfl,n1,n2,HI,hbl⟩:=hrel
    by_cases hn:n≤17
    · have hn':(n:Int)≤17:=by omega
      have hq0:=qN_lt b t n HTp.out hn
      have HR:Hid (∀ W,Calls Tryz.prog 125 #[.int .u64 (b:Int),.int .i64 (t - (n:Int)+1)] W fun e w'=>e=.returned (.tuple #[.int .u64 ((qN b (t - n+1):Nat):Int),.int .i64 (hN b (t - n+1))])∧Below W.heap.size W w'):=fun W=>ratio_any b (t - n+1) hb (by omega) (by omega) (top_big b t n HTp.out hn) W
      have HS1:Hid (∀ W,Calls Tryz.prog 126 #[.int .u64 (b:Int),.int .u64 ((qN b (t - n+1):Nat):Int),.int .i64 (t - (n:Int)+1)] W fun e w'=>e=.returned (.int .i64 (SideN b (qN b (t - n+1)) (t - n+1)))∧Below W.heap.size W w'):=fun W=>side_any b _ _ hb0 hb (by omega) (by omega) (by omega) W
      have HS2:Hid (∀ W,Calls Tryz.prog 126 #[.int .u64 (b:Int),.int .u64 (((qN b (t - n+1):Nat):Int)+1),.int .i64 (t - (n:Int)+1)] W fun e w'=>e=.returned (.int .i64 (SideN b (qN b (t - n+1)+1) (t - n+1)))∧Below W.heap.size W w'):=fun W=>by
        have:=side_any b (qN b (t - n+1)+1) (t - n+1) hb0 hb (by omega) (by omega) (by omega) W
        rw [show ((qN b (t - n+1)+1:Nat):Int)=((qN b (t - n+1):Nat):Int)+1 from by omega] at this
        exact this
      have HO:Hid (okD b (t - n+1) ↔ SideN b (qN b (t - n+1)) (t - n+1)=0∨SideN b (qN b (t - n+1)+1) (t - n+1)=0):=Iff.rfl
      have HCp:Hid (1≤cD b (t - n+1)):=cD_pos b _ hb0
      have hh3:hN b (t - n+1)=-1∨hN b (t - n+1)=0∨hN b (t - n+1)=1:=cmpN_cases _ _
      have HCd:Hid _:=cD_of (b:=b) (s:=t - n+1) rfl rfl rfl rfl
      have HH3:Hid _:=hh3
      clear hh3
      generalize SideN b (qN b (t - n+1)+1) (t - n+1)=s2 at *
      generalize SideN b (qN b (t - n+1)) (t - n+1)=s1 at *
      generalize qN b (t - n+1)=q at *
      generalize hN b (t - n+1)=h at *
      as_aux_lemma =>
      go_wp2_with fail
      refine (HR.out _).mono ?_
      rintro e w2 ⟨rfl,hb2⟩
      go_wp2_with fail
      refine (HS1.out _).mono ?_
      rintro e w3 ⟨rfl,hb3⟩
      go_wp2_with fail
      refine (HS2.out _).mono ?_
      rintro e w4 ⟨rfl,hb4⟩
      have hb5:=hbl.trans (((hb2.trans (hb3.mono hb2.size)).trans (hb4.mono (Nat.le_trans hb2.size hb3.size))).mono hbl.size)
      clear HR HS1 HS2 hb2 hb3 hb4 hbl
      by_cases ok:s1≠0∧s2≠0
      · have o1:(s1 == 0)=false:=by rw [beq_eq_false_iff_ne];exact ok.1
        have o2:(s2 == 0)=false:=by rw [beq_eq_false_iff_ne];exact ok.2
        have HI':Hid (∀ i:Nat,1≤i→i < n+1→¬ okD b (t - i+1)):=fun i h1 h2=>by
          rcases Nat.lt_or_ge i n with c | c
          · exact HI.out i h1 c
          · obtain rfl:i=n:=by omega
            intro g
            rcases HO.out.1 g with g | g
            · exact ok.1 g
            · exact ok.2 g
        clear ok
        as_aux_lemma =>
          go_wp2_with fail
          exact ⟨⟨n+1,by go_num,by omega,by omega,HI',hb5⟩,by simp [intOf];omega⟩
      · have HOk:Hid (okD b (t - n+1)):=HO.out.2 (by omega)
        have ok':s1=0∨s2=0:=by omega
        clear ok HO
        have hE:=HCd.out
        have hcd:cD b (t - n+1)≤100000000000000000:=by
          rw [HCd.out]
          split <;> omega
        clear HCd
        generalize hc0:cD b (t - n+1)=c0 at *
        by_cases a1:s1=0
        · subst a1
          by_cases a2:s2=0
          · subst a2
            rcases HH3.out with g | g | g
            · subst g
              have hC:((q:Nat):Int)=(c0:Int):=by rw [hE];simp
              clear hE HH3 ok'
              as_aux_lemma =>
              go_wp2_with fail
              go_loopw [6,11] (fun a x W=>∃ (c:Nat) (s:Int),a=.int .i64 s∧x=.int .u64 (c:Int)∧1≤c∧c≤100000000000000000∧Hid (Strp c0 (t - n+1) c s)∧W=w4) (fun _ x _=>(intOf x).toNat)
              case atStart=>exact ⟨c0,t - n+1,rfl,rfl,HCp.out,hcd,⟨0,by rw [Nat.pow_zero,Nat.mul_one],by omega⟩,rfl⟩
              case round =>
                obtain ⟨c,s,rfl,rfl,c1,c2,HP,hw⟩:=hrel
                subst wr
                have hs:=strp_s HP.out c1 hcd
                by_cases hz:c % 10=0
                · have hz':(((c:Int) % 10) == 0)=true:=by rw [beq_iff_eq];omega
                  have HP':Hid _:=strp_step HP.out hz
                  as_aux_lemma =>
                    go_wp2_with fail
                    exact ⟨⟨c / 10,s+1,rfl,congrArg (Value.int .u64) (by omega),by omega,by omega,HP',trivial⟩,by simp [intOf];omega⟩
                · have hz':(((c:Int) % 10) == 0)=false:=by rw [beq_eq_false_iff_ne];omega
                  have hd:=Lib.nDigits_le20 c (by omega)
                  have hdl:(Lib.decDigits c).length=Lib.nDigits c:=Lib.decDigits_length c
                  have HD:Hid (DigsOf b c (s+(Lib.nDigits c:Int) - 1)):=Or.inl ⟨t,n,s,HTp.out,n1,hn,HI.out,HOk.out,by rw [hc0];exact HP.out,hz,rfl⟩
                  have HNc:Hid _:=HN'.out c w4 (by omega)
                  as_aux_lemma =>
                    go_wp2_with fail
                    refine Calls.mono HNc.out ?_
                    rintro e w6 ⟨rfl,hb6⟩
                    generalize Lib.decDigits c=dd at *
                    generalize Lib.nDigits c=nd at *
                    subst hdl
                    go_wp2_with fail
                    go_ret2
                    exact ⟨c,_,rfl,HD.out,hb5.trans (hb6.mono hb5.size)⟩
            · subst g
              have hq2:q % 2=0∨q % 2=1:=by omega
              rcases hq2 with e0 | e0
              · have hC:((q:Nat):Int)=(c0:Int):=by rw [hE];simp [e0]
                have e1:(((q:Int) % 2) == 1)=false:=by rw [beq_eq_false_iff_ne];omega
                clear hE HH3 ok'
                as_aux_lemma =>
                go_wp2_with fail
                go_loopw [6,11] (fun a x W=>∃ (c:Nat) (s:Int),a=.int .i64 s∧x=.int .u64 (c:Int)∧1≤c∧c≤100000000000000000∧Hid (Strp c0 (t - n+1) c s)∧W=w4) (fun _ x _=>(intOf x).toNat)
                case atStart=>exact ⟨c0,t - n+1,rfl,rfl,HCp.out,hcd,⟨0,by rw [Nat.pow_zero,Nat.mul_one],by omega⟩,rfl⟩
                case round =>
                  obtain ⟨c,s,rfl,rfl,c1,c2,HP,hw⟩:=hrel
                  subst wr
                  have hs:=strp_s HP.out c1 hcd
                  by_cases hz:c % 10=0
                  · have hz':(((c:Int) % 10) == 0)=true:=by rw [beq_iff_eq];omega
                    have HP':Hid _:=strp_step HP.out hz
                    as_aux_lemma =>
                      go_wp2_with fail
                      exact ⟨⟨c / 10,s+1,rfl,congrArg (Value.int .u64) (by omega),by omega,by omega,HP',trivial⟩,by simp [intOf];omega⟩
                  · have hz':(((c:Int) % 10) == 0)=false:=by rw [beq_eq_false_iff_ne];omega
                    have hd:=Lib.nDigits_le20 c (by omega)
                    have hdl:(Lib.decDigits c).length=Lib.nDigits c:=Lib.decDigits_length c
                    have HD:Hid (DigsOf b c (s+(Lib.nDigits c:Int) - 1)):=Or.inl ⟨t,n,s,HTp.out,n1,hn,HI.out,HOk.out,by rw [hc0];exact HP.out,hz,rfl⟩
                    have HNc:Hid _:=HN'.out c w4 (by omega)
                    as_aux_lemma =>
                      go_wp2_with fail
                      refine Calls.mono HNc.out ?_
                      rintro e w6 ⟨rfl,hb6⟩
                      generalize Lib.decDigits c=dd at *
                      generalize Lib.nDigits c=nd at *
                      subst hdl
                      go_wp2_with fail
                      go_ret2
                      exact ⟨c,_,rfl,HD.out,hb5.trans (hb6.mono hb5.size)⟩
              · have hC:((q:Nat):Int)+1=(c0:Int):=by rw [hE];simp [e0]
                have e1:(((q:Int) % 2) == 1)=true:=by rw [beq_iff_eq];omega
                clear hE HH3 ok'
                as_aux_lemma =>
                go_wp2_with fail
                go_loopw [6,11] (fun a x W=>∃ (c:Nat) (s:Int),a=.int .i64 s∧x=.int .u64 (c:Int)∧1≤c∧c≤100000000000000000∧Hid (Strp c0 (t - n+1) c s)∧W=w4) (fun _ x _=>(intOf x).toNat)
                case atStart=>exact ⟨c0,t - n+1,rfl,rfl,HCp.out,hcd,⟨0,by rw [Nat.pow_zero,Nat.mul_one],by omega⟩,rfl⟩
                case round =>
                  obtain ⟨c,s,rfl,rfl,c1,c2,HP,hw⟩:=hrel
                  subst wr
                  have hs:=strp_s HP.out c1 hcd
                  by_cases hz:c % 10=0
                  · have hz':(((c:Int) % 10) == 0)=true:=by rw [beq_iff_eq];omega
                    have HP':Hid _:=strp_step HP.out hz
                    as_aux_lemma =>
                      go_wp2_with fail
                      exact ⟨⟨c / 10,s+1,rfl,congrArg (Value.int .u64) (by omega),by omega,by omega,HP',trivial⟩,by simp [intOf];omega⟩
                  · have hz':(((c:Int) % 10) == 0)=false:=by rw [beq_eq_false_iff_ne];omega
                    have hd:=Lib.nDigits_le20 c (by omega)
                    have hdl:(Lib.decDigits c).length=Lib.nDigits c:=Lib.decDigits_length c
                    have HD:Hid (DigsOf b c (s+(Lib.nDigits c:Int) - 1)):=Or.inl ⟨t,n,s,HTp.out,n1,hn,HI.out,HOk.out,by rw [hc0];exact HP.out,hz,rfl⟩
                    have HNc:Hid _:=HN'.out c w4 (by omega)
                    as_aux_lemma =>
                      go_wp2_with fail
                      refine Calls.mono HNc.out ?_
                      rintro e w6 ⟨rfl,hb6⟩
                      generalize Lib.decDigits c=dd at *
                      generalize Lib.nDigits c=nd at *
                      subst hdl
                      go_wp2_with fail
                      go_ret2
                      exact ⟨c,_,rfl,HD.out,hb5.trans (hb6.mono hb5.size)⟩
            · subst g
              have hC:((q:Nat):Int)+1=(c0:Int):=by rw [hE];simp
              clear hE HH3 ok'
              as_aux_lemma =>
              go_wp2_with fail
              go_loopw [6,11] (fun a x W=>∃ (c:Nat) (s:Int),a=.int .i64 s∧x=.int .u64 (c:Int)∧1≤c∧c≤100000000000000000∧Hid (Strp c0 (t - n+1) c s)∧W=w4) (fun _ x _=>(intOf x).toNat)
              case atStart=>exact ⟨c0,t - n+1,rfl,rfl,HCp.out,hcd,⟨0,by rw [Nat.pow_zero,Nat.mul_one],by omega⟩,rfl⟩
              case round =>
                obtain ⟨c,s,rfl,rfl,c1,c2,HP,hw⟩:=hrel
                subst wr
                have hs:=strp_s HP.out c1 hcd
                by_cases hz:c % 10=0
                · have hz':(((c:Int) % 10) == 0)=true:=by rw [beq_iff_eq];omega
                  have HP':Hid _:=strp_step HP.out hz
                  as_aux_lemma =>
                    go_wp2_with fail
                    exact ⟨⟨c / 10,s+1,rfl,congrArg (Value.int .u64) (by omega),by omega,by omega,HP',trivial⟩,by simp [intOf];omega⟩
                · have hz':(((c:Int) % 10) == 0)=false:=by rw [beq_eq_false_iff_ne];omega
                  have hd:=Lib.nDigits_le20 c (by omega)
                  have hdl:(Lib.decDigits c).length=Lib.nDigits c:=Lib.decDigits_length c
                  have HD:Hid (DigsOf b c (s+(Lib.nDigits c:Int) - 1)):=Or.inl ⟨t,n,s,HTp.out,n1,hn,HI.out,HOk.out,by rw [hc0];exact HP.out,hz,rfl⟩
                  have HNc:Hid _:=HN'.out c w4 (by omega)
                  as_aux_lemma =>
                    go_wp2_with fail
                    refine Calls.mono HNc.out ?_
                    rintro e w6 ⟨rfl,hb6⟩
                    generalize Lib.decDigits c=dd at *
                    generalize Lib.nDigits c=nd at *
                    subst hdl
                    go_wp2_with fail
                    go_ret2
                    exact ⟨c,_,rfl,HD.out,hb5.trans (hb6.mono hb5.size)⟩
          · have o2:(s2 == 0)=false:=by rw [beq_eq_false_iff_ne];exact a2
            have hC:((q:Nat):Int)=(c0:Int):=by rw [hE];simp [a2]
            clear hE ok'
            as_aux_lemma =>
            go_wp2_with fail
            go_loopw [6,11] (fun a x W=>∃ (c:Nat) (s:Int),a=.int .i64 s∧x=.int .u64 (c:Int)∧1≤c∧c≤100000000000000000∧Hid (Strp c0 (t - n+1) c s)∧W=w4) (fun _ x _=>(intOf x).toNat)
            case atStart=>exact ⟨c0,t - n+1,rfl,rfl,HCp.out,hcd,⟨0,by rw [Nat.pow_zero,Nat.mul_one],by omega⟩,rfl⟩
            case round =>
              obtain ⟨c,s,rfl,rfl,c1,c2,HP,hw⟩:=hrel
              subst wr
              have hs:=strp_s HP.out c1 hcd
              by_cases hz:c % 10=0
              · have hz':(((c:Int) % 10) == 0)=true:=by rw [beq_iff_eq];omega
                have HP':Hid _:=strp_step HP.out hz
                as_aux_lemma =>
                  go_wp2_with fail
                  exact ⟨⟨c / 10,s+1,rfl,congrArg (Value.int .u64) (by omega),by omega,by omega,HP',trivial⟩,by simp [intOf];omega⟩
              · have hz':(((c:Int) % 10) == 0)=false:=by rw [beq_eq_false_iff_ne];omega
                have hd:=Lib.nDigits_le20 c (by omega)
                have hdl:(Lib.decDigits c).length=Lib.nDigits c:=Lib.decDigits_length c
                have HD:Hid (DigsOf b c (s+(Lib.nDigits c:Int) - 1)):=Or.inl ⟨t,n,s,HTp.out,n1,hn,HI.out,HOk.out,by rw [hc0];exact HP.out,hz,rfl⟩
                have HNc:Hid _:=HN'.out c w4 (by omega)
                as_aux_lemma =>
                  go_wp2_with fail
                  refine Calls.mono HNc.out ?_
                  rintro e w6 ⟨rfl,hb6⟩
                  generalize Lib.decDigits c=dd at *
                  generalize Lib.nDigits c=nd at *
                  subst hdl
                  go_wp2_with fail
                  go_ret2
                  exact ⟨c,_,rfl,HD.out,hb5.trans (hb6.mono hb5.size)⟩
        · have o1:(s1 == 0)=false:=by rw [beq_eq_false_iff_ne];exact a1
          have o2:(s2 == 0)=true:=by rw [beq_iff_eq];omega
          have hC:((q:Nat):Int)+1=(c0:Int):=by rw [hE];simp [a1]
          clear hE ok'
          as_aux_lemma =>
          go_wp2_with fail
          go_loopw [6,11] (fun a x W=>∃ (c:Nat) (s:Int),a=.int .i64 s∧x=.int .u64 (c:Int)∧1≤c∧c≤100000000000000000∧Hid (Strp c0 (t - n+1) c s)∧W=w4) (fun _ x _=>(intOf x).toNat)
          case atStart=>exact ⟨c0,t - n+1,rfl,rfl,HCp.out,hcd,⟨0,by rw [Nat.pow_zero,Nat.mul_one],by omega⟩,rfl⟩
          case round =>
            obtain ⟨c,s,rfl,rfl,c1,c2,HP,hw⟩:=hrel
            subst wr
            have hs:=strp_s HP.out c1 hcd
            by_cases hz:c % 10=0
            · have hz':(((c:Int) % 10) == 0)=true:=by rw [beq_iff_eq];omega
              have HP':Hid _:=strp_step HP.out hz
              as_aux_lemma =>
                go_wp2_with fail
                exact ⟨⟨c / 10,s+1,rfl,congrArg (Value.int .u64) (by omega),by omega,by omega,HP',trivial⟩,by simp [intOf];omega⟩
            · have hz':(((c:Int) % 10) == 0)=false:=by rw [beq_eq_false_iff_ne];omega
              have hd:=Lib.nDigits_le20 c (by omega)
              have hdl:(Lib.decDigits c).length=Lib.nDigits c:=Lib.decDigits_length c
              have HD:Hid (DigsOf b c (s+(Lib.nDigits c:Int) - 1)):=Or.inl ⟨t,n,s,HTp.out,n1,hn,HI.out,HOk.out,by rw [hc0];exact HP.out,hz,rfl⟩
              have HNc:Hid _:=HN'.out c w4 (by omega)
              as_aux_lemma =>
                go_wp2_with fail
                refine Calls.mono HNc.out ?_
                rintro e w6 ⟨rfl,hb6⟩
                generalize Lib.decDigits c=dd at *
                generalize Lib.nDigits c=nd at *
                subst hdl
                go_wp2_with fail
                go_ret2
                exact ⟨c,_,rfl,HD.out,hb5.trans (hb6.mono hb5.size)⟩
    · have hn':¬ (n:Int)≤17:=by omega
      obtain rfl:n=18:=by omega
      have HD:Hid (DigsOf b 0 0):=Or.inr ⟨⟨t,HTp.out,fun i h1 h2=>HI.out i h1 (by omega)⟩,rfl,rfl⟩
      as_aux_lemma =>
        go_wp2_with fail
        go_ret2
        exact ⟨0,0,rfl,HD.out,hbl⟩
end Go.Proofs.YtibahfopmjiffaaGreatDoor.Rl
/- THE ARITHMETIC OF DECIMALS: prefixes of digits, and what a shift to the left carries. Own work of the verifier. -/
namespace Go.Proofs.YtibahfopmjiffaaGreatDoor.Rl
def pv (D:Nat→Nat):Nat→Nat
  | 0=>0
  | i+1=>pv D i*10+(D i - 48)
def cr (D:Nat→Nat) (n k:Nat):Nat→Nat
  | 0=>0
  | j+1=>((D (n - 1 - j) - 48)*2 ^ k+cr D n k j) / 10
end Go.Proofs.YtibahfopmjiffaaGreatDoor.Rl
/- DECIMALS IN MEMORY, AND trim. Own work of the verifier. -/
namespace Go.Proofs.YtibahfopmjiffaaGreatDoor.Rl
open Go.RowKit
def upd (D:Nat→Nat) (i v:Nat):Nat→Nat:=fun j=>if j=i then v else D j
theorem upd_same (D:Nat→Nat) (i v:Nat):upd D i v i=v:=by simp [upd]
theorem upd_other (D:Nat→Nat) (i v:Nat) {j:Nat} (h:j≠i):upd D i v j=D j:=by simp [upd,h]
theorem off_ne {g a b:Nat} (h:a≠b):(⟨g,a,none⟩:Addr)≠⟨g,b,none⟩:=fun c=>h (by injection c)
end Go.Proofs.YtibahfopmjiffaaGreatDoor.Rl
/- number: the document's, of layer 2. Own work of the verifier. -/
set_option maxRecDepth 100000
set_option maxHeartbeats 2000000
namespace Go.Proofs.YtibahfopmjiffaaGreatDoor.Rl
open Go.RowKit Soft
def bV (n:Nat):Value:=.int .u8 (n:Int)
def Lead (N:Nat) (xs:List Nat) (M:Nat):Prop:=Lib.decDigits N=Lib.decDigits M++xs.reverse.map UInt8.ofNat∧∀ x ∈ xs,x < 256
theorem lead_step {N M:Nat} {xs:List Nat} (h:Lead N xs M) (hM:¬ M < 10):Lead N (xs++[48+M % 10]) (M / 10):=by
  obtain ⟨h1,h2⟩:=h
  refine ⟨?_,?_⟩
  · rw [h1,Lib.decDigits,dif_neg hM,List.reverse_append]
    simp
  · intro x hx
    rcases List.mem_append.1 hx with g | g
    · exact h2 x g
    · rw [List.mem_singleton.1 g];omega
theorem lead_end {N M:Nat} {xs:List Nat} (h:Lead N xs M) (hM:M < 10):Lib.decDigits N=(xs++[48+M]).reverse.map UInt8.ofNat∧∀ x ∈ xs++[48+M],x < 256:=by
  obtain ⟨h1,h2⟩:=h
  refine ⟨?_,?_⟩
  · rw [h1,Lib.decDigits_one hM,List.reverse_append]
    simp
  · intro x hx
    rcases List.mem_append.1 hx with g | g
    · exact h2 x g
    · rw [List.mem_singleton.1 g];omega
theorem lead_len {N M:Nat} {xs:List Nat} (h:Lead N xs M) (hN:N < 18446744073709551616):xs.length≤19:=by
  have h1:=congrArg List.length h.1
  rw [List.length_append,List.length_map,List.length_reverse,Lib.decDigits_length,Lib.decDigits_length] at h1
  have h2:=Lib.nDigits_le20 N hN
  have h3:=Lib.nDigits_pos M
  omega
structure BR (g n:Nat) (D:Nat→Nat) (w:World):Prop where
  dig:∀ i,i < n→w.cell? ⟨g,i,none⟩=some (.int .u8 (D i:Int))
  fr:∀ o,w.frozen? ⟨g,o,none⟩=false
theorem BR.set {g n:Nat} {D:Nat→Nat} {w:World} (h:BR g n D w) (i v:Nat) (hi:i < n):BR g n (upd D i v) (w.setCell ⟨g,i,none⟩ (.int .u8 (v:Int))):=by
  refine ⟨fun j hj=>?_,fun o=>by rw [World.frozen?_setCell];exact h.fr o⟩
  by_cases e:j=i
  · subst e;rw [World.cell?_setCell_same w _ _ (h.dig j hj),upd_same]
  · rw [World.cell?_setCell_other w _ _ _ (off_ne (fun c=>e c.symm)),upd_other D i v e];exact h.dig j hj
theorem GB.bytes {B:Nat} {W0 w:World} {v:Value} {xs:List Nat} (h:GB B 5 bV W0 v xs w):∃ g cap,v=.slice (some ⟨g,0,none⟩) xs.length cap∧B≤g∧BR g xs.length (fun i=>xs.getD i 0) w:=by
  obtain ⟨g,cap,cur,rfl,hB,hcur,_,_,h5,h6⟩:=own_ofG h.own h.nz
  refine ⟨g,cap,rfl,hB,fun i hi=>?_,fun o=>?_⟩
  · have e1:cur[i]? =some (bV (xs.getD i 0)):=by
      have:(cur.toList.take xs.length)[i]? =some (bV (xs.getD i 0)):=by
        rw [h6,List.getElem?_map,List.getElem?_eq_getElem hi,List.getD_eq_getElem?_getD,List.getElem?_eq_getElem hi]
        rfl
      rw [List.getElem?_take,if_pos hi] at this
      rw [← Array.getElem?_toList]
      exact this
    simp [World.cell?,hcur,e1]
    rfl
  · simp [World.frozen?,hcur]
def Swp (E D:Nat→Nat) (n i:Nat):Prop:=∀ t,t < n→D t=if t < i∨n≤t+i then E (n - 1 - t) else E t
theorem swp_step {E D:Nat→Nat} {n i:Nat} (h:Swp E D n i) (hi:i < n / 2):Swp E (upd (upd D i (D (n - 1 - i))) (n - 1 - i) (D i)) n (i+1):=by
  intro t ht
  have a:=h i (by omega)
  have b:=h (n - 1 - i) (by omega)
  have c:=h t ht
  rw [if_neg (by omega)] at a b
  unfold upd
  by_cases e1:t=n - 1 - i
  · subst e1
    rw [if_pos rfl,if_pos (Or.inr (by omega)),a]
    congr 1;omega
  · rw [if_neg e1]
    by_cases e2:t=i
    · subst e2
      rw [if_pos rfl,if_pos (Or.inl (by omega)),b]
    · rw [if_neg e2,c]
      by_cases g:t < i∨n≤t+i
      · rw [if_pos g,if_pos (by omega)]
      · rw [if_neg g,if_neg (by omega)]
theorem swp_end {E D:Nat→Nat} {n i:Nat} (h:Swp E D n i) (hi:¬ i < n / 2) (t:Nat) (ht:t < n):D t=E (n - 1 - t):=by
  rw [h t ht]
  by_cases g:t < i∨n≤t+i
  · rw [if_pos g]
  · rw [if_neg g];congr 1;omega
theorem number_any:NumOk:=fun N w hN=>by
  obtain ⟨i0,hi,hz0,hz1,hz2⟩:=info_parts infoByte
  go_enter Tryz.func88,Tryz.ntmps88
  go_wp2_with fail
  go_loopw [0,3] (fun a v W=>∃ (M:Nat) (xs:List Nat),a=.int .u64 (M:Int)∧M≤N∧Hid (Lead N xs M)∧GB w.heap.size 5 bV w v xs W) (fun a _ _=>(intOf a).toNat)
  case atStart=>exact ⟨N,[],rfl,Nat.le_refl _,⟨by simp,(fun x hx=>by cases hx)⟩,GB.new w⟩
  case round =>
    obtain ⟨M,xs,rfl,hM,HL,hG⟩:=hrel
    have hxl:=lead_len HL.out hN
    have hBel:=hG.below
    by_cases h10:M < 10
    · have h10':¬ (10:Int)≤(M:Int):=by omega
      have HE:Hid _:=lead_end HL.out h10
      clear HL
      as_aux_lemma =>
        go_wp2_with (first | (at_builtin;refine wpList_append_own _ rfl _ _ 54 rfl w.heap.size 5 i0 (.int .u8 0) 1 1 Tryz.underlying54 hi hz0 hz1 hz2 rfl (by decide) _ _ _ rfl (hG.own.alloc _) ⟨_,0,none⟩ 1 1 [_] rfl rfl (cell_one_new _ _ _) (by intro u hu;simp at hu;subst hu;rfl) (by unfold maxLen;omega) (by omega) (by have:=hG.size;simp;omega) ?_;intro v' w7 hown hgrow hnil;have hG7:=hG.push (x:=48+M) _ (congrArg (Value.int .u8) (by omega)) hown hgrow hnil;clear hown hgrow hnil))
        have hE:=HE.out
        clear HE
        obtain ⟨ys,hys⟩:∃ ys,ys=xs++[48+M]:=⟨_,rfl⟩
        have hyl:ys.length≤20:=by rw [hys,List.length_append];simp;omega
        rw [← hys] at hE hG7
        have HE:Hid _:=hE
        have hb7:=hG7.below
        have hs7:=hG7.size
        clear hE hys hG
        obtain ⟨g,cap,rfl,hgB,hBR⟩:=hG7.bytes
        clear hG7
        have HB:Hid (BR g ys.length (fun i=>ys.getD i 0) w7):=hBR
        clear hBR
        obtain ⟨h2,hh2⟩:∃ h2,h2=ys.length / 2:=⟨_,rfl⟩
        have hdv:(ys.length:Int) / 2=(h2:Int):=by omega
        have HH2:Hid (h2=ys.length / 2):=hh2
        have hh3:2*h2≤ys.length:=by omega
        clear hh2
        go_wp2_with fail
        go_loopw [4] (fun a W=>∃ (i:Nat) (D:Nat→Nat),a=.int .i64 (i:Int)∧i≤h2∧Hid (BR g ys.length D W)∧Hid (Swp (fun i=>ys.getD i 0) D ys.length i)∧Below w.heap.size w W) (fun a _=>h2 - (intOf a).toNat)
        case atStart=>exact ⟨0,_,rfl,by omega,HB,(fun t ht=>by rw [if_neg (by omega)]),hb7⟩
        case round =>
          obtain ⟨i,D,rfl,hi2,HR,HW,hbl⟩:=hrel
          by_cases hlt:i < h2
          · have hlt':(i:Int) < (h2:Int):=by omega
            obtain ⟨j,hj⟩:∃ j,j=ys.length - 1 - i:=⟨_,rfl⟩
            have hj':(ys.length:Int) - 1 - (i:Int)=(j:Int):=by omega
            have HW':Hid _:=swp_step HW.out (by rw [← HH2.out];exact hlt)
            have c1:=HR.out.dig i (by omega)
            have c2:=HR.out.dig j (by omega)
            have f1:=HR.out.fr
            have HR':Hid _:=(HR.out.set i (D j) (by omega)).set j (D i) (by omega)
            rw [← hj] at HW'
            have hji:j < ys.length:=by omega
            have hji':(j:Int) < (ys.length:Int):=by omega
            have hii':(i:Int) < (ys.length:Int):=by omega
            clear HR HW hj
            as_aux_lemma =>
              go_wp2_with fail
              exact ⟨⟨i+1,_,by go_num,by omega,HR',HW',(hbl.setCell hgB _).setCell hgB _⟩,by simp [intOf];omega⟩
          · have hlt':¬ (i:Int) < (h2:Int):=by omega
            have hln:(Lib.decDigits N).length=ys.length:=by rw [HE.out.1,List.length_map,List.length_reverse]
            have hcv:(convert 54 9 (.slice (some ⟨g,0,none⟩) ys.length cap)).run Tryz.prog wr=.ok (.string ⟨(Lib.decDigits N).toArray⟩) wr:=by
              have h:=run_convert_bytes_back (P:=Tryz.prog) wr 54 9 5 ⟨g,0,none⟩ cap (Lib.decDigits N) Tryz.underlying54 Tryz.underlying5 Tryz.underlying9 (fun k hk=>by
                have hk':k < ys.length:=by omega
                have a1:=HR.out.dig k hk'
                rw [swp_end HW.out (by rw [← HH2.out];exact hlt) k hk'] at a1
                have a2:(⟨g,0,none⟩:Addr).add k=⟨g,k,none⟩:=by
                  unfold Addr.add
                  by_cases h0:k=0
                  · subst h0;rfl
                  · rw [if_neg h0];simp
                rw [a2,a1]
                have a3:(Lib.decDigits N)[k]=UInt8.ofNat (ys.getD (ys.length - 1 - k) 0):=by
                  have:(Lib.decDigits N)[k]? =some (UInt8.ofNat (ys.getD (ys.length - 1 - k) 0)):=by
                    rw [HE.out.1,List.getElem?_map,List.getElem?_reverse hk',List.getD_eq_getElem?_getD,List.getElem?_eq_getElem (show ys.length - 1 - k < ys.length by omega)]
                    rfl
                  rw [List.getElem?_eq_getElem hk] at this
                  exact Option.some.inj this
                have a4:ys.getD (ys.length - 1 - k) 0 < 256:=by
                  rw [List.getD_eq_getElem?_getD,List.getElem?_eq_getElem (show ys.length - 1 - k < ys.length by omega)]
                  exact HE.out.2 _ (List.getElem_mem _)
                rw [a3,UInt8.toNat_ofNat',Nat.mod_eq_of_lt a4])
              rw [hln] at h
              exact h
            clear HR HW
            as_aux_lemma =>
              go_wp2_with fail
              go_ret
              exact ⟨rfl,hbl⟩
    · have h10':(10:Int)≤(M:Int):=by omega
      have HE:Hid _:=lead_step HL.out h10
      obtain ⟨d,hd⟩:∃ d,d=M % 10:=⟨_,rfl⟩
      have e1:(M:Int) % 10=(d:Int):=by omega
      have hd10:d < 10:=by omega
      rw [← hd] at HE
      clear hd
      clear HL
      as_aux_lemma =>
        go_wp2_with (first | (at_builtin;refine wpList_append_own _ rfl _ _ 54 rfl w.heap.size 5 i0 (.int .u8 0) 1 1 Tryz.underlying54 hi hz0 hz1 hz2 rfl (by decide) _ _ _ rfl (hG.own.alloc _) ⟨_,0,none⟩ 1 1 [_] rfl rfl (cell_one_new _ _ _) (by intro u hu;simp at hu;subst hu;rfl) (by unfold maxLen;omega) (by omega) (by have:=hG.size;simp;omega) ?_;intro v' w7 hown hgrow hnil;have hG7:=hG.push (x:=48+d) _ (congrArg (Value.int .u8) (by omega)) hown hgrow hnil;clear hown hgrow hnil))
        exact ⟨⟨M / 10,_,congrArg (Value.int .u64) (by omega),by omega,HE,hG7⟩,by simp [intOf];omega⟩
end Go.Proofs.YtibahfopmjiffaaGreatDoor.Rl
/- text: the document's, of layer 2. Own work of the verifier. -/
set_option maxRecDepth 100000
set_option maxHeartbeats 2000000
namespace Go.Proofs.YtibahfopmjiffaaGreatDoor.Rl
open Go.RowKit Soft
def txt (d:List UInt8) (e:Int):List UInt8 :=
  if 0≤e∧e≤20 then
    if (d.length:Int)≤e+1 then d++List.replicate (e+1 - d.length).toNat 48
    else d.take (e+1).toNat++[46]++d.drop (e+1).toNat
  else if e < 0∧-6≤e then [48,46]++List.replicate (-e - 1).toNat 48++d
  else (d.take 1++(if 1 < d.length then [46]++d.drop 1 else []))++(if e < 0 then [101,45]++Lib.decDigits (-e).toNat else [101]++Lib.decDigits e.toNat)
theorem cD_le (b:Nat) (t:Int) (n:Nat) (h:Top b t) (hn:n≤17):cD b (t - n+1)≤100000000000000000:=by
  have:=qN_lt b t n h hn
  unfold cD
  split <;> omega
theorem digs_bound {b c:Nat} {e:Int} (h:DigsOf b c e):c≤100000000000000000∧-500≤e∧e≤500:=by
  rcases h with ⟨t,n,s,hT,n1,n2,_,_,hS,hc,rfl⟩ | ⟨_,rfl,rfl⟩
  · have h1:=cD_le b t n hT n2
    have hc1:1≤c:=by omega
    have h2:=strp_s hS hc1 h1
    have h3:c≤100000000000000000:=by
      obtain ⟨j,e1,_⟩:=hS
      have:=Nat.le_mul_of_pos_right c (Nat.pow_pos (n:=j) (show 0 < 10 by decide))
      omega
    have h4:=Lib.nDigits_le20 c (by omega)
    have h5:=Lib.nDigits_pos c
    have:=hT.1
    have:=hT.2.1
    omega
  · omega
theorem text_any (b:Nat) (hb0:1≤b) (hb:b < 9218868437227405312) (w:World) :
    Calls Tryz.prog 59 #[.int .u64 (b:Int)] w fun r w'=>∃ (c:Nat) (x:Int),r=.returned (.string ⟨(txt (Lib.decDigits c) x).toArray⟩)∧DigsOf b c x∧Below w.heap.size w w':=by
  have HDg:Hid _:=fun W=>ddigits_any number_any b hb0 hb W
  have HNm:Hid (NumOk):=number_any
  have HZ:Hid (∀ (n:Nat) (W:World),n≤1000000→Calls Tryz.prog 89 #[.int .i64 (n:Int)] W fun e w'=>e=.returned (.string ⟨(List.replicate n 48).toArray⟩)∧w'=W):=fun n W hn=>zeros_any n hn W
  go_enter Tryz.func59,Tryz.ntmps59
  go_wp2_with fail
  refine (HDg.out _).mono ?_
  rintro r w1 ⟨c,e,rfl,hD,hb1⟩
  clear HDg
  obtain ⟨d1,d2,d3⟩:=digs_bound hD
  have HD:Hid _:=hD
  clear hD
  go_wp2_with fail
  refine (HNm.out c _ (by omega)).mono ?_
  rintro r w2 ⟨rfl,hb2⟩
  have hbw:=hb1.trans (hb2.mono hb1.size)
  have hl1:1≤(Lib.decDigits c).length:=by rw [Lib.decDigits_length];exact Lib.nDigits_pos c
  have hl2:(Lib.decDigits c).length≤20:=by rw [Lib.decDigits_length];exact Lib.nDigits_le20 c (by omega)
  clear hb1 hb2
  generalize hdd:Lib.decDigits c=dd at *
  by_cases a1:0≤e
  · obtain ⟨n,rfl⟩:∃ n:Nat,e=(n:Int):=⟨e.toNat,by omega⟩
    by_cases a2:n≤20
    · have a2':(n:Int)≤20:=by omega
      by_cases a3:dd.length≤n+1
      · have a3':(dd.length:Int)≤(n:Int)+1:=by omega
        obtain ⟨z,hz⟩:∃ z,z=n+1 - dd.length:=⟨_,rfl⟩
        have hz':(n:Int)+1 - (dd.length:Int)=(z:Int):=by omega
        have HZ':Hid _:=fun W=>HZ.out z W (by omega)
        have HE:Hid (dd++List.replicate z 48=txt dd (n:Int)):=by
          show _=txt dd (n:Int)
          unfold txt
          rw [if_pos ⟨by omega,a2'⟩,if_pos a3',show ((n:Int)+1 - (dd.length:Int)).toNat=z from by omega]
        clear hz
        as_aux_lemma =>
          go_wp2_with fail
          refine (HZ'.out _).mono ?_
          rintro r w3 ⟨rfl,rfl⟩
          go_wp2_with fail
          go_ret
          refine ⟨c,n,congrArg (fun x=>Ending.returned (Value.string x)) ?_,HD.out,hbw⟩
          rw [hdd,← HE.out]
          apply ByteArray.ext
          simp
      · have a3':¬ (dd.length:Int)≤(n:Int)+1:=by omega
        have HE:Hid (dd.take (n+1)++[46]++dd.drop (n+1)=txt dd (n:Int)):=by
          show _=txt dd (n:Int)
          unfold txt
          rw [if_pos ⟨by omega,a2'⟩,if_neg a3',show ((n:Int)+1).toNat=n+1 from by omega]
        as_aux_lemma =>
          go_wp2_with fail
          go_quiet (fail)
          go_wp2_with fail
          go_ret
          refine ⟨c,n,congrArg (fun x=>Ending.returned (Value.string x)) ?_,HD.out,Below.drewN' hbw _⟩
          rw [hdd,← HE.out]
          apply ByteArray.ext
          simp
          exact List.take_of_length_le (by simp)
    · have a2':¬ (n:Int)≤20:=by omega
      have a4:¬ (n:Int) < 0:=by omega
      have HN:Hid _:=fun W=>HNm.out n W (by omega)
      have hln:(Lib.decDigits n).length≤20:=by rw [Lib.decDigits_length];exact Lib.nDigits_le20 n (by omega)
      generalize hdn:Lib.decDigits n=dn at *
      by_cases a3:1 < dd.length
      · have a3':(1:Int) < (dd.length:Int):=by omega
        have HE:Hid ((dd.take 1++([46]++dd.drop 1))++([101]++dn)=txt dd (n:Int)):=by
          show _=txt dd (n:Int)
          subst hdn
          unfold txt
          rw [if_neg (fun h=>a2' h.2),if_neg (fun h=>a4 h.1),if_pos a3,if_neg a4,show ((n:Int)).toNat=n from by omega]
        as_aux_lemma =>
          go_wp2_with fail
          refine (HN.out _).mono ?_
          rintro r w3 ⟨rfl,hb3⟩
          go_wp2_with fail
          go_ret
          refine ⟨c,n,congrArg (fun x=>Ending.returned (Value.string x)) ?_,HD.out,hbw.trans (hb3.mono hbw.size)⟩
          rw [hdd,← HE.out]
          apply ByteArray.ext
          simp
          exact List.take_of_length_le (by simp)
      · have a3':¬ (1:Int) < (dd.length:Int):=by omega
        have HE:Hid ((dd.take 1++[])++([101]++dn)=txt dd (n:Int)):=by
          show _=txt dd (n:Int)
          subst hdn
          unfold txt
          rw [if_neg (fun h=>a2' h.2),if_neg (fun h=>a4 h.1),if_neg a3,if_neg a4,show ((n:Int)).toNat=n from by omega]
        as_aux_lemma =>
          go_wp2_with fail
          refine (HN.out _).mono ?_
          rintro r w3 ⟨rfl,hb3⟩
          go_wp2_with fail
          go_ret
          refine ⟨c,n,congrArg (fun x=>Ending.returned (Value.string x)) ?_,HD.out,hbw.trans (hb3.mono hbw.size)⟩
          rw [hdd,← HE.out]
          apply ByteArray.ext
          simp
  · obtain ⟨n,rfl⟩:∃ n:Nat,e=-(n:Int):=⟨(-e).toNat,by omega⟩
    have n1:1≤n:=by omega
    have a4:-(n:Int) < 0:=by omega
    by_cases a2:n≤6
    · have a2':-6≤-(n:Int):=by omega
      obtain ⟨z,hz⟩:∃ z,z=n - 1:=⟨_,rfl⟩
      have hz':(n:Int) - 1=(z:Int):=by omega
      have HZ':Hid _:=fun W=>HZ.out z W (by omega)
      have HE:Hid ([48,46]++List.replicate z 48++dd=txt dd (-(n:Int))):=by
        show _=txt dd (-(n:Int))
        unfold txt
        rw [if_neg (fun h=>a1 h.1),if_pos ⟨a4,a2'⟩,show (- -(n:Int) - 1).toNat=z from by omega]
      clear hz
      as_aux_lemma =>
        go_wp2_with fail
        refine (HZ'.out _).mono ?_
        rintro r w3 ⟨rfl,rfl⟩
        go_wp2_with fail
        go_ret
        refine ⟨c,-(n:Int),congrArg (fun x=>Ending.returned (Value.string x)) ?_,HD.out,hbw⟩
        rw [hdd,← HE.out]
        apply ByteArray.ext
        simp
    · have a2':¬ -6≤-(n:Int):=by omega
      have HN:Hid _:=fun W=>HNm.out n W (by omega)
      have hln:(Lib.decDigits n).length≤20:=by rw [Lib.decDigits_length];exact Lib.nDigits_le20 n (by omega)
      generalize hdn:Lib.decDigits n=dn at *
      by_cases a3:1 < dd.length
      · have a3':(1:Int) < (dd.length:Int):=by omega
        have HE:Hid ((dd.take 1++([46]++dd.drop 1))++([101,45]++dn)=txt dd (-(n:Int))):=by
          show _=txt dd (-(n:Int))
          subst hdn
          unfold txt
          rw [if_neg (fun h=>a1 h.1),if_neg (fun h=>a2' h.2),if_pos a3,if_pos a4,show (- -(n:Int)).toNat=n from by omega]
        as_aux_lemma =>
          go_wp2_with fail
          refine (HN.out _).mono ?_
          rintro r w3 ⟨rfl,hb3⟩
          go_wp2_with fail
          go_ret
          refine ⟨c,-(n:Int),congrArg (fun x=>Ending.returned (Value.string x)) ?_,HD.out,hbw.trans (hb3.mono hbw.size)⟩
          rw [hdd,← HE.out]
          apply ByteArray.ext
          simp
          exact List.take_of_length_le (by simp)
      · have a3':¬ (1:Int) < (dd.length:Int):=by omega
        have HE:Hid ((dd.take 1++[])++([101,45]++dn)=txt dd (-(n:Int))):=by
          show _=txt dd (-(n:Int))
          subst hdn
          unfold txt
          rw [if_neg (fun h=>a1 h.1),if_neg (fun h=>a2' h.2),if_neg a3,if_pos a4,show (- -(n:Int)).toNat=n from by omega]
        as_aux_lemma =>
          go_wp2_with fail
          refine (HN.out _).mono ?_
          rintro r w3 ⟨rfl,hb3⟩
          go_wp2_with fail
          go_ret
          refine ⟨c,-(n:Int),congrArg (fun x=>Ending.returned (Value.string x)) ?_,HD.out,hbw.trans (hb3.mono hbw.size)⟩
          rw [hdd,← HE.out]
          apply ByteArray.ext
          simp
end Go.Proofs.YtibahfopmjiffaaGreatDoor.Rl
