/- THE LEAVES of label: letters and rows, the document's. Own work of the verifier. -/
import Derived.Test.YtibahfopmjiffaaGreatDoorRows
import Derived.WalkKit
import Derived.WalkSpells
import Derived.RowKit3
import Derived.Below
import Derived.Laws.Externs
import Derived.Outline
import Derived.Deep.QuietTactic
import Derived.BigQuiet
import Derived.Laws.Bits64
import Derived.Laws.BitsAllLaws
import Derived.Laws.DeepStrings4
import Derived.Deep.DeepCutAuto
import Derived.Deep.RegionHeld3
import Derived.Deep.CutBlock
set_option maxRecDepth 100000
set_option maxHeartbeats 1000000
namespace Go.Proofs.YtibahfopmjiffaaGreatDoor.La
open Go.RowKit
def isL (c:Nat):Bool:=decide (97≤c∧c≤122∨65≤c∧c≤90∨48≤c∧c≤57∨c=95)
theorem letter_any (c:Nat) (w:World) :
    Calls Tryz.prog 177 #[.int .u8 (c:Int)] w fun e w'=>e=.returned (.bool (isL c))∧w'=w:=by
  by_cases a1:97≤c
  · have i97:(97:Int)≤(c:Int):=by omega
    by_cases a2:c≤122
    · have i122:(c:Int)≤122:=by omega
      rw [show isL c=true from decide_eq_true (by omega)]
      as_aux_lemma =>
        go_enter Tryz.func177,Tryz.ntmps177
        go_wp2_with fail
        go_ret
        exact ⟨rfl,rfl⟩
    · have i122:¬ (c:Int)≤122:=by omega
      have i65:(65:Int)≤(c:Int):=by omega
      have i90:¬ (c:Int)≤90:=by omega
      have i48:(48:Int)≤(c:Int):=by omega
      have i57:¬ (c:Int)≤57:=by omega
      have i95:((c:Int) == 95)=false:=by rw [beq_eq_false_iff_ne];omega
      rw [show isL c=false from decide_eq_false (by omega)]
      as_aux_lemma =>
        go_enter Tryz.func177,Tryz.ntmps177
        go_wp2_with fail
        go_ret
        exact ⟨rfl,rfl⟩
  have i97:¬ (97:Int)≤(c:Int):=by omega
  by_cases a3:65≤c
  · have i65:(65:Int)≤(c:Int):=by omega
    by_cases a4:c≤90
    · have i90:(c:Int)≤90:=by omega
      rw [show isL c=true from decide_eq_true (by omega)]
      as_aux_lemma =>
        go_enter Tryz.func177,Tryz.ntmps177
        go_wp2_with fail
        go_ret
        exact ⟨rfl,rfl⟩
    · have i90:¬ (c:Int)≤90:=by omega
      have i48:(48:Int)≤(c:Int):=by omega
      have i57:¬ (c:Int)≤57:=by omega
      by_cases a5:c=95
      · have i95:((c:Int) == 95)=true:=by rw [beq_iff_eq];omega
        rw [show isL c=true from decide_eq_true (by omega)]
        clear a5
        as_aux_lemma =>
          go_enter Tryz.func177,Tryz.ntmps177
          go_wp2_with fail
          go_ret
          exact ⟨rfl,rfl⟩
      · have i95:((c:Int) == 95)=false:=by rw [beq_eq_false_iff_ne];omega
        rw [show isL c=false from decide_eq_false (by omega)]
        as_aux_lemma =>
          go_enter Tryz.func177,Tryz.ntmps177
          go_wp2_with fail
          go_ret
          exact ⟨rfl,rfl⟩
  have i65:¬ (65:Int)≤(c:Int):=by omega
  by_cases a6:48≤c
  · have i48:(48:Int)≤(c:Int):=by omega
    by_cases a7:c≤57
    · have i57:(c:Int)≤57:=by omega
      rw [show isL c=true from decide_eq_true (by omega)]
      as_aux_lemma =>
        go_enter Tryz.func177,Tryz.ntmps177
        go_wp2_with fail
        go_ret
        exact ⟨rfl,rfl⟩
    · have i57:¬ (c:Int)≤57:=by omega
      have i95:((c:Int) == 95)=false:=by rw [beq_eq_false_iff_ne];omega
      rw [show isL c=false from decide_eq_false (by omega)]
      as_aux_lemma =>
        go_enter Tryz.func177,Tryz.ntmps177
        go_wp2_with fail
        go_ret
        exact ⟨rfl,rfl⟩
  · have i48:¬ (48:Int)≤(c:Int):=by omega
    have i95:((c:Int) == 95)=false:=by rw [beq_eq_false_iff_ne];omega
    rw [show isL c=false from decide_eq_false (by omega)]
    as_aux_lemma =>
      go_enter Tryz.func177,Tryz.ntmps177
      go_wp2_with fail
      go_ret
      exact ⟨rfl,rfl⟩
def gd (colon:Bool) (c:Nat):Bool:=isL c || (colon && decide (c=58))
def rowN (colon:Bool):List UInt8→Nat
  | []=>0
  | b::r=>if gd colon b.toNat then rowN colon r+1 else 0
theorem rowN_le (colon:Bool):∀ l:List UInt8,rowN colon l≤l.length
  | []=>Nat.le_refl _
  | b::r=>by
    rw [rowN,List.length_cons]
    have:=rowN_le colon r
    split <;> omega
theorem row_any (l:List UInt8) (p:Nat) (colon:Bool) (hp:p≤l.length) (hl:l.length≤4611686018427387904) (w:World) :
    Calls Tryz.prog 129 #[.string ⟨l.toArray⟩,.int .i64 (p:Int),.bool colon] w fun e w'=>e=.returned (.int .i64 ((rowN colon (l.drop p):Nat):Int))∧w'=w:=by
  have HL:Hid (∀ (c:Nat) (W:World),Calls Tryz.prog 177 #[.int .u8 (c:Int)] W fun e w'=>e=.returned (.bool (isL c))∧w'=W):=fun c W=>letter_any c W
  obtain ⟨R,hR⟩:∃ R,R=rowN colon (l.drop p):=⟨_,rfl⟩
  rw [← hR]
  have HR0:Hid (R=0+rowN colon (l.drop (p+0))):=by show R=_;rw [hR,Nat.add_zero,Nat.zero_add]
  clear hR
  go_enter Tryz.func129,Tryz.ntmps129
  go_wp2_with fail
  go_loopw [7] (fun a W=>∃ n:Nat,p+n≤l.length∧a=.int .i64 (n:Int)∧Hid (R=n+rowN colon (l.drop (p+n)))∧W=w) (fun a _=>l.length - (intOf a).toNat)
  case atStart=>exact ⟨0,by omega,rfl,HR0,rfl⟩
  case round =>
    obtain ⟨n,hn,rfl,HR,hw⟩:=hrel
    subst wr
    clear HR0
    obtain ⟨k,hk⟩:∃ k,k=p+n:=⟨_,rfl⟩
    have hk':(p:Int)+(n:Int)=(k:Int):=by omega
    have hS:=HR.out
    clear HR
    rw [← hk] at hS
    by_cases hlt:k < l.length
    · have hlt':(k:Int) < (l.length:Int):=by omega
      have hB:k < (ByteArray.mk l.toArray).size:=by show k < l.toArray.size;simpa using hlt
      have hbe:((ByteArray.mk l.toArray)[k]'hB).toNat=l[k].toNat:=rfl
      rw [List.drop_eq_getElem_cons hlt,rowN] at hS
      have HL1:Hid _:=HL.out ((ByteArray.mk l.toArray)[k]'hB).toNat
      rw [hbe] at HL1
      by_cases g1:isL l[k].toNat=true
      · rw [g1] at HL1
        rw [if_pos (by unfold gd;rw [g1];rfl)] at hS
        have HR':Hid (R=n+1+rowN colon (l.drop (p+(n+1)))):=by show R=_;rw [hS,hk];show n+(rowN colon (l.drop (p+n+1))+1)=_;rw [show p+(n+1)=p+n+1 from by omega];omega
        clear hS g1 hbe HL hk
        as_aux_lemma =>
          go_wp2_with fail
          refine (HL1.out _).mono ?_
          rintro e w1 ⟨rfl,rfl⟩
          go_wp2_with fail
          exact ⟨⟨n+1,by omega,by go_num,HR',trivial⟩,by simp [intOf];omega⟩
      · have g1':isL l[k].toNat=false:=by simpa using g1
        rw [g1'] at HL1
        cases colon
        · rw [if_neg (by unfold gd;rw [g1'];simp)] at hS
          have HF:Hid (R=n):=hS
          clear hS g1 g1' hbe HL hk
          as_aux_lemma =>
            go_wp2_with fail
            refine (HL1.out _).mono ?_
            rintro e w1 ⟨rfl,rfl⟩
            go_wp2_with fail
            go_ret
            exact ⟨congrArg (fun z:Nat=>Ending.returned (Value.int .i64 (z:Int))) HF.out.symm,rfl⟩
        · by_cases g2:l[k].toNat=58
          · have t58:((((ByteArray.mk l.toArray)[k]'hB).toNat:Int) == 58)=true:=by rw [beq_iff_eq,hbe];omega
            rw [if_pos (by unfold gd;rw [g1',g2];rfl)] at hS
            have HR':Hid (R=n+1+rowN true (l.drop (p+(n+1)))):=by show R=_;rw [hS,hk];show n+(rowN true (l.drop (p+n+1))+1)=_;rw [show p+(n+1)=p+n+1 from by omega];omega
            clear hS g1 g1' g2 hbe HL hk
            as_aux_lemma =>
              go_wp2_with fail
              refine (HL1.out _).mono ?_
              rintro e w1 ⟨rfl,rfl⟩
              go_wp2_with fail
              exact ⟨⟨n+1,by omega,by go_num,HR',trivial⟩,by simp [intOf];omega⟩
          · have t58:((((ByteArray.mk l.toArray)[k]'hB).toNat:Int) == 58)=false:=by rw [beq_eq_false_iff_ne,hbe];omega
            rw [if_neg (by unfold gd;rw [g1',decide_eq_false g2];simp)] at hS
            have HF:Hid (R=n):=hS
            clear hS g1 g1' g2 hbe HL hk
            as_aux_lemma =>
              go_wp2_with fail
              refine (HL1.out _).mono ?_
              rintro e w1 ⟨rfl,rfl⟩
              go_wp2_with fail
              go_ret
              exact ⟨congrArg (fun z:Nat=>Ending.returned (Value.int .i64 (z:Int))) HF.out.symm,rfl⟩
    · have hlt':¬ (k:Int) < (l.length:Int):=by omega
      rw [List.drop_eq_nil_of_le (by omega),rowN] at hS
      have HF:Hid (R=n):=hS
      clear hS HL hk
      as_aux_lemma =>
        go_wp2_with fail
        go_ret
        exact ⟨congrArg (fun z:Nat=>Ending.returned (Value.int .i64 (z:Int))) HF.out.symm,rfl⟩
end Go.Proofs.YtibahfopmjiffaaGreatDoor.La
/- NAMES, the document's: ends, plain, Name, LabelName. Own work of the verifier. -/
set_option maxHeartbeats 1000000
namespace Go.Proofs.YtibahfopmjiffaaGreatDoor.La
open Go.RowKit
theorem drop_bytes (l:List UInt8) (k:Nat):(ByteArray.mk l.toArray).extract k l.length=⟨(l.drop k).toArray⟩:=by
  apply ByteArray.ext
  rw [ByteArray.data_extract]
  simp
  exact List.take_of_length_le (by simp)
theorem take_bytes (l:List UInt8) (k:Nat):(ByteArray.mk l.toArray).extract 0 k=⟨(l.take k).toArray⟩:=by
  apply ByteArray.ext
  rw [ByteArray.data_extract]
  simp
def endsB (l e:List UInt8):Bool:=decide (e.length≤l.length) && (l.drop (l.length - e.length) == e)
theorem ends_any (l e:List UInt8) (hl:l.length≤4611686018427387904) (he:e.length≤4611686018427387904) (w:World) :
    Calls Tryz.prog 93 #[.string ⟨l.toArray⟩,.string ⟨e.toArray⟩] w fun r w'=>r=.returned (.bool (endsB l e))∧w'=w:=by
  by_cases h:e.length≤l.length
  · have h':(e.length:Int)≤(l.length:Int):=by omega
    obtain ⟨k,hk⟩:∃ k,k=l.length - e.length:=⟨_,rfl⟩
    have hk':(l.length:Int) - (e.length:Int)=(k:Int):=by omega
    have hkl:k≤l.length:=by omega
    have hD:=drop_bytes l k
    have hE:endsB l e=(l.drop k == e):=by unfold endsB;rw [decide_eq_true h,← hk];rfl
    rw [hE]
    generalize hd:l.drop k=d at *
    clear hk hE
    by_cases g:d=e
    · subst g
      rw [show (d == d)=true from by simp]
      as_aux_lemma =>
        go_enter Tryz.func93,Tryz.ntmps93
        go_wp2_with fail
        go_ret
        exact ⟨rfl,rfl⟩
    · have g':(d == e)=false:=by simpa using g
      rw [g']
      clear g
      as_aux_lemma =>
        go_enter Tryz.func93,Tryz.ntmps93
        go_wp2_with fail
        go_ret
        exact ⟨rfl,rfl⟩
  · have h':¬ (e.length:Int)≤(l.length:Int):=by omega
    rw [show endsB l e=false from by unfold endsB;rw [decide_eq_false h];rfl]
    as_aux_lemma =>
      go_enter Tryz.func93,Tryz.ntmps93
      go_wp2_with fail
      go_ret
      exact ⟨rfl,rfl⟩
def plainB (colon:Bool) (l:List UInt8):Bool:=decide (1≤l.length) && decide (l.length≤64) && decide (rowN colon l=l.length) && !(decide (48≤(l.getD 0 0).toNat) && decide ((l.getD 0 0).toNat≤57))
theorem get_zero (l:List UInt8) (h:0 < l.length) (hB:0 < (ByteArray.mk l.toArray).size):((ByteArray.mk l.toArray)[0]'hB).toNat=(l.getD 0 0).toNat:=by
  rw [List.getD_eq_getElem?_getD,List.getElem?_eq_getElem h]
  rfl
theorem plain_any (l:List UInt8) (colon:Bool) (hl:l.length≤4611686018427387904) (w:World) :
    Calls Tryz.prog 92 #[.string ⟨l.toArray⟩,.bool colon] w fun r w'=>r=.returned (.bool (plainB colon l))∧w'=w:=by
  have HR:Hid (∀ W,Calls Tryz.prog 129 #[.string ⟨l.toArray⟩,.int .i64 0,.bool colon] W fun e w'=>e=.returned (.int .i64 ((rowN colon l:Nat):Int))∧w'=W):=fun W=>row_any l 0 colon (by omega) hl W
  by_cases g0:1≤l.length
  · have p1:(1:Int)≤(l.length:Int):=by omega
    by_cases g1:l.length≤64
    · have p2:(l.length:Int)≤64:=by omega
      by_cases g2:rowN colon l=l.length
      · rw [g2] at HR
        have hB:0 < (ByteArray.mk l.toArray).size:=by show 0 < l.toArray.size;rw [List.size_toArray];omega
        have hbe:=get_zero l g0 hB
        by_cases g3:48≤(l.getD 0 0).toNat
        · have p4:(48:Int)≤(((ByteArray.mk l.toArray)[0]'hB).toNat:Int):=by rw [hbe];omega
          by_cases g4:(l.getD 0 0).toNat≤57
          · have p5:(((ByteArray.mk l.toArray)[0]'hB).toNat:Int)≤57:=by rw [hbe];omega
            rw [show plainB colon l=false from by unfold plainB;rw [decide_eq_true g3,decide_eq_true g4];simp]
            clear g0 g1 g2 g3 g4 hbe
            as_aux_lemma =>
              go_enter Tryz.func92,Tryz.ntmps92
              go_wp2_with fail
              refine (HR.out _).mono ?_
              rintro e w1 ⟨rfl,rfl⟩
              go_wp2_with fail
              go_ret
              exact ⟨rfl,rfl⟩
          · have p5:¬ (((ByteArray.mk l.toArray)[0]'hB).toNat:Int)≤57:=by rw [hbe];omega
            rw [show plainB colon l=true from by unfold plainB;rw [decide_eq_true g0,decide_eq_true g1,decide_eq_true g2,decide_eq_false g4];simp]
            clear g0 g1 g2 g3 g4 hbe
            as_aux_lemma =>
              go_enter Tryz.func92,Tryz.ntmps92
              go_wp2_with fail
              refine (HR.out _).mono ?_
              rintro e w1 ⟨rfl,rfl⟩
              go_wp2_with fail
              go_ret
              exact ⟨congrArg (fun b=>Ending.returned (Value.bool (!b))) (decide_eq_false (by omega)),rfl⟩
        · have p4:¬ (48:Int)≤(((ByteArray.mk l.toArray)[0]'hB).toNat:Int):=by rw [hbe];omega
          rw [show plainB colon l=true from by unfold plainB;rw [decide_eq_true g0,decide_eq_true g1,decide_eq_true g2,decide_eq_false g3];simp]
          clear g0 g1 g2 g3 hbe
          as_aux_lemma =>
            go_enter Tryz.func92,Tryz.ntmps92
            go_wp2_with fail
            refine (HR.out _).mono ?_
            rintro e w1 ⟨rfl,rfl⟩
            go_wp2_with fail
            go_ret
            exact ⟨rfl,rfl⟩
      · have p3:(((rowN colon l:Nat):Int) == (l.length:Int))=false:=by rw [beq_eq_false_iff_ne];omega
        rw [show plainB colon l=false from by unfold plainB;rw [decide_eq_false g2];simp]
        generalize rowN colon l=R at *
        clear g0 g1 g2
        as_aux_lemma =>
          go_enter Tryz.func92,Tryz.ntmps92
          go_wp2_with fail
          refine (HR.out _).mono ?_
          rintro e w1 ⟨rfl,rfl⟩
          go_wp2_with fail
          go_ret
          exact ⟨rfl,rfl⟩
    · have p2:¬ (l.length:Int)≤64:=by omega
      rw [show plainB colon l=false from by unfold plainB;rw [decide_eq_false g1];simp]
      clear g0 g1
      as_aux_lemma =>
        go_enter Tryz.func92,Tryz.ntmps92
        go_wp2_with fail
        go_ret
        exact ⟨rfl,rfl⟩
  · have p1:¬ (1:Int)≤(l.length:Int):=by omega
    rw [show plainB colon l=false from by unfold plainB;rw [decide_eq_false g0];simp]
    clear g0
    as_aux_lemma =>
      go_enter Tryz.func92,Tryz.ntmps92
      go_wp2_with fail
      go_ret
      exact ⟨rfl,rfl⟩
def nameB (l:List UInt8):Bool:=plainB true l && !endsB l [95,98,117,99,107,101,116] && !endsB l [95,115,117,109] && !endsB l [95,99,111,117,110,116]
theorem name_any (l:List UInt8) (hl:l.length≤4611686018427387904) (w:World) :
    Calls Tryz.prog 65 #[.string ⟨l.toArray⟩] w fun r w'=>r=.returned (.bool (nameB l))∧w'=w:=by
  have HP:Hid _:=fun W=>plain_any l true hl W
  have H1:Hid (∀ W,Calls Tryz.prog 93 #[.string ⟨l.toArray⟩,.string ⟨#[95,98,117,99,107,101,116]⟩] W fun r w'=>r=.returned (.bool (endsB l [95,98,117,99,107,101,116]))∧w'=W):=fun W=>ends_any l [95,98,117,99,107,101,116] hl (by decide) W
  have H2:Hid (∀ W,Calls Tryz.prog 93 #[.string ⟨l.toArray⟩,.string ⟨#[95,115,117,109]⟩] W fun r w'=>r=.returned (.bool (endsB l [95,115,117,109]))∧w'=W):=fun W=>ends_any l [95,115,117,109] hl (by decide) W
  have H3:Hid (∀ W,Calls Tryz.prog 93 #[.string ⟨l.toArray⟩,.string ⟨#[95,99,111,117,110,116]⟩] W fun r w'=>r=.returned (.bool (endsB l [95,99,111,117,110,116]))∧w'=W):=fun W=>ends_any l [95,99,111,117,110,116] hl (by decide) W
  have hN:nameB l=(plainB true l && !endsB l [95,98,117,99,107,101,116] && !endsB l [95,115,117,109] && !endsB l [95,99,111,117,110,116]):=rfl
  rw [hN]
  generalize plainB true l=b0 at *
  generalize endsB l [95,98,117,99,107,101,116]=b1 at *
  generalize endsB l [95,115,117,109]=b2 at *
  generalize endsB l [95,99,111,117,110,116]=b3 at *
  clear hN
  cases b0 <;> cases b1 <;> cases b2 <;> cases b3 <;> (
    as_aux_lemma =>
      go_enter Tryz.func65,Tryz.ntmps65
      go_wp2_with (first
        | (go_at_call 92;with_reducible refine (HP.out _).mono ?_;rintro e w1 ⟨rfl,rfl⟩)
        | (go_at_call 93;first | (with_reducible refine (H1.out _).mono ?_;rintro e w1 ⟨rfl,rfl⟩) | (with_reducible refine (H2.out _).mono ?_;rintro e w1 ⟨rfl,rfl⟩) | (with_reducible refine (H3.out _).mono ?_;rintro e w1 ⟨rfl,rfl⟩))
        | fail)
      go_ret
      exact ⟨rfl,rfl⟩)
def lnameB (l:List UInt8):Bool:=plainB false l && !(l == [108,101]) && !(l == [113,117,97,110,116,105,108,101]) && !(decide (2≤l.length) && (l.take 2 == [95,95]))
theorem lname_any (l:List UInt8) (hl:l.length≤4611686018427387904) (w:World) :
    Calls Tryz.prog 67 #[.string ⟨l.toArray⟩] w fun r w'=>r=.returned (.bool (lnameB l))∧w'=w:=by
  have HP:Hid _:=fun W=>plain_any l false hl W
  have hN:lnameB l=(plainB false l && !(l == [108,101]) && !(l == [113,117,97,110,116,105,108,101]) && !(decide (2≤l.length) && (l.take 2 == [95,95]))):=rfl
  rw [hN]
  have hT:=take_bytes l 2
  generalize hb1:(l == [108,101])=b1 at *
  generalize hb2:(l == [113,117,97,110,116,105,108,101])=b2 at *
  generalize plainB false l=b0 at *
  clear hN
  by_cases g:2≤l.length
  · have g':(2:Int)≤(l.length:Int):=by omega
    rw [decide_eq_true g]
    generalize l.take 2=t at *
    generalize hb3:(t == [95,95])=b3 at *
    cases b0 <;> cases b1 <;> cases b2 <;> cases b3 <;> (
      as_aux_lemma =>
        go_enter Tryz.func67,Tryz.ntmps67
        go_wp2_with (first
          | (go_at_call 92;with_reducible refine (HP.out _).mono ?_;rintro e w1 ⟨rfl,rfl⟩)
          | fail)
        go_ret
        exact ⟨rfl,rfl⟩)
  · have g':¬ (2:Int)≤(l.length:Int):=by omega
    rw [decide_eq_false g]
    clear hT
    cases b0 <;> cases b1 <;> cases b2 <;> (
      as_aux_lemma =>
        go_enter Tryz.func67,Tryz.ntmps67
        go_wp2_with (first
          | (go_at_call 92;with_reducible refine (HP.out _).mono ?_;rintro e w1 ⟨rfl,rfl⟩)
          | fail)
        go_ret
        exact ⟨rfl,rfl⟩)
end Go.Proofs.YtibahfopmjiffaaGreatDoor.La
/- THE CODE'S LEAVES: letters, digits. Own work of the verifier. -/
namespace Go.Proofs.YtibahfopmjiffaaGreatDoor.La
open Go.RowKit
def isD (c:Nat):Bool:=decide (48≤c∧c≤57)
def isA (c:Nat):Bool:=decide (97≤c∧c≤122∨65≤c∧c≤90)
theorem isL_eq (c:Nat):isL c=(isA c || isD c || decide (c=95)):=by
  unfold isL isA isD
  rw [Bool.eq_iff_iff]
  simp only [Bool.or_eq_true,decide_eq_true_eq]
  omega
theorem cdigit_any (c:Nat) (w:World) :
    Calls Tryz.prog 185 #[.int .u8 (c:Int)] w fun e w'=>e=.returned (.bool (isD c))∧w'=w:=by
  by_cases a1:48≤c
  · have i1:(48:Int)≤(c:Int):=by omega
    by_cases a2:c≤57
    · have i2:(c:Int)≤57:=by omega
      rw [show isD c=true from decide_eq_true (by omega)]
      as_aux_lemma =>
        go_enter Tryz.func185,Tryz.ntmps185
        go_wp2_with fail
        go_ret
        exact ⟨rfl,rfl⟩
    · have i2:¬ (c:Int)≤57:=by omega
      rw [show isD c=false from decide_eq_false (by omega)]
      as_aux_lemma =>
        go_enter Tryz.func185,Tryz.ntmps185
        go_wp2_with fail
        go_ret
        exact ⟨rfl,rfl⟩
  · have i1:¬ (48:Int)≤(c:Int):=by omega
    rw [show isD c=false from decide_eq_false (by omega)]
    as_aux_lemma =>
      go_enter Tryz.func185,Tryz.ntmps185
      go_wp2_with fail
      go_ret
      exact ⟨rfl,rfl⟩
theorem cletter_any (c:Nat) (w:World) :
    Calls Tryz.prog 224 #[.int .u8 (c:Int)] w fun e w'=>e=.returned (.bool (isA c))∧w'=w:=by
  by_cases a1:97≤c
  · have i1:(97:Int)≤(c:Int):=by omega
    by_cases a2:c≤122
    · have i2:(c:Int)≤122:=by omega
      rw [show isA c=true from decide_eq_true (by omega)]
      as_aux_lemma =>
        go_enter Tryz.func224,Tryz.ntmps224
        go_wp2_with fail
        go_ret
        exact ⟨rfl,rfl⟩
    · have i2:¬ (c:Int)≤122:=by omega
      have i3:(65:Int)≤(c:Int):=by omega
      have i4:¬ (c:Int)≤90:=by omega
      rw [show isA c=false from decide_eq_false (by omega)]
      as_aux_lemma =>
        go_enter Tryz.func224,Tryz.ntmps224
        go_wp2_with fail
        go_ret
        exact ⟨rfl,rfl⟩
  · have i1:¬ (97:Int)≤(c:Int):=by omega
    by_cases a3:65≤c
    · have i3:(65:Int)≤(c:Int):=by omega
      by_cases a4:c≤90
      · have i4:(c:Int)≤90:=by omega
        rw [show isA c=true from decide_eq_true (by omega)]
        as_aux_lemma =>
          go_enter Tryz.func224,Tryz.ntmps224
          go_wp2_with fail
          go_ret
          exact ⟨rfl,rfl⟩
      · have i4:¬ (c:Int)≤90:=by omega
        rw [show isA c=false from decide_eq_false (by omega)]
        as_aux_lemma =>
          go_enter Tryz.func224,Tryz.ntmps224
          go_wp2_with fail
          go_ret
          exact ⟨rfl,rfl⟩
    · have i3:¬ (65:Int)≤(c:Int):=by omega
      rw [show isA c=false from decide_eq_false (by omega)]
      as_aux_lemma =>
        go_enter Tryz.func224,Tryz.ntmps224
        go_wp2_with fail
        go_ret
        exact ⟨rfl,rfl⟩
theorem oflab_any (c:Nat) (w:World) :
    Calls Tryz.prog 187 #[.int .u8 (c:Int)] w fun e w'=>e=.returned (.bool (gd false c))∧w'=w:=by
  have HA:Hid _:=fun W=>cletter_any c W
  have HD:Hid _:=fun W=>cdigit_any c W
  have h0:gd false c=isL c:=by simp [gd]
  rw [h0,isL_eq]
  clear h0
  cases hA:isA c
  · rw [hA] at HA
    cases hD:isD c
    · rw [hD] at HD
      by_cases h95:c=95
      · have t:((c:Int) == 95)=true:=by rw [beq_iff_eq];omega
        rw [show decide (c=95)=true from decide_eq_true h95]
        clear h95
        as_aux_lemma =>
          go_enter Tryz.func187,Tryz.ntmps187
          go_wp2_with (first | (go_at_call 224;refine (HA.out _).mono ?_;rintro e1 w1 ⟨rfl,rfl⟩) | (go_at_call 185;refine (HD.out _).mono ?_;rintro e1 w1 ⟨rfl,rfl⟩))
          go_ret
          exact ⟨rfl,rfl⟩
      · have t:((c:Int) == 95)=false:=by rw [beq_eq_false_iff_ne];omega
        rw [show decide (c=95)=false from decide_eq_false h95]
        clear h95
        as_aux_lemma =>
          go_enter Tryz.func187,Tryz.ntmps187
          go_wp2_with (first | (go_at_call 224;refine (HA.out _).mono ?_;rintro e1 w1 ⟨rfl,rfl⟩) | (go_at_call 185;refine (HD.out _).mono ?_;rintro e1 w1 ⟨rfl,rfl⟩))
          go_ret
          exact ⟨rfl,rfl⟩
    · rw [hD] at HD
      as_aux_lemma =>
        go_enter Tryz.func187,Tryz.ntmps187
        go_wp2_with (first | (go_at_call 224;refine (HA.out _).mono ?_;rintro e1 w1 ⟨rfl,rfl⟩) | (go_at_call 185;refine (HD.out _).mono ?_;rintro e1 w1 ⟨rfl,rfl⟩))
        go_ret
        exact ⟨by simp,rfl⟩
  · rw [hA] at HA
    as_aux_lemma =>
      go_enter Tryz.func187,Tryz.ntmps187
      go_wp2_with (first | (go_at_call 224;refine (HA.out _).mono ?_;rintro e1 w1 ⟨rfl,rfl⟩) | (go_at_call 185;refine (HD.out _).mono ?_;rintro e1 w1 ⟨rfl,rfl⟩))
      go_ret
      exact ⟨by simp,rfl⟩
theorem ofname_any (c:Nat) (w:World) :
    Calls Tryz.prog 139 #[.int .u8 (c:Int)] w fun e w'=>e=.returned (.bool (gd true c))∧w'=w:=by
  have HA:Hid _:=fun W=>oflab_any c W
  have h0:gd true c=(gd false c || decide (c=58)):=by simp [gd]
  rw [h0]
  clear h0
  cases hA:gd false c
  · rw [hA] at HA
    by_cases h58:c=58
    · have t:((c:Int) == 58)=true:=by rw [beq_iff_eq];omega
      rw [show decide (c=58)=true from decide_eq_true h58]
      clear h58
      as_aux_lemma =>
        go_enter Tryz.func139,Tryz.ntmps139
        go_wp2_with (go_at_call 187;refine (HA.out _).mono ?_;rintro e1 w1 ⟨rfl,rfl⟩)
        go_ret
        exact ⟨rfl,rfl⟩
    · have t:((c:Int) == 58)=false:=by rw [beq_eq_false_iff_ne];omega
      rw [show decide (c=58)=false from decide_eq_false h58]
      clear h58
      as_aux_lemma =>
        go_enter Tryz.func139,Tryz.ntmps139
        go_wp2_with (go_at_call 187;refine (HA.out _).mono ?_;rintro e1 w1 ⟨rfl,rfl⟩)
        go_ret
        exact ⟨rfl,rfl⟩
  · rw [hA] at HA
    as_aux_lemma =>
      go_enter Tryz.func139,Tryz.ntmps139
      go_wp2_with (go_at_call 187;refine (HA.out _).mono ?_;rintro e1 w1 ⟨rfl,rfl⟩)
      go_ret
      exact ⟨by simp,rfl⟩
end Go.Proofs.YtibahfopmjiffaaGreatDoor.La
/- THE CODE'S row AND isWord. Own work of the verifier. -/
set_option maxRecDepth 100000
set_option maxHeartbeats 1000000
namespace Go.Proofs.YtibahfopmjiffaaGreatDoor.La
open Go.RowKit
def fv:Bool→Value
  | true=>.func (.func 139) #[] #[]
  | false=>.func (.func 187) #[] #[]
theorem crow_false (l:List UInt8) (hl:l.length≤4611686018427387904) (w:World) :
    Calls Tryz.prog 186 #[.string ⟨l.toArray⟩,fv false] w fun e w'=>e=.returned (.string ⟨(l.take (rowN false l)).toArray⟩)∧w'=w:=by
  have HL:Hid (∀ (c:Nat) (W:World),Calls Tryz.prog 187 #[.int .u8 (c:Int)] W fun e w'=>e=.returned (.bool (gd false c))∧w'=W):=fun c W=>oflab_any c W
  obtain ⟨R,hR⟩:∃ R,R=rowN false l:=⟨_,rfl⟩
  rw [← hR]
  have HR0:Hid (R=0+rowN false (l.drop 0)):=by show R=_;rw [hR,List.drop_zero,Nat.zero_add]
  clear hR
  unfold fv
  go_enter Tryz.func186,Tryz.ntmps186
  go_wp2_with fail
  go_loopw [5] (fun a W=>∃ n:Nat,n≤l.length∧a=.int .i64 (n:Int)∧Hid (R=n+rowN false (l.drop n))∧W=w) (fun a _=>l.length - (intOf a).toNat)
  case atStart=>exact ⟨0,by omega,rfl,HR0,rfl⟩
  case round =>
    obtain ⟨n,hn,rfl,HR,hw⟩:=hrel
    subst wr
    clear HR0
    have hS:=HR.out
    clear HR
    have htk:=take_bytes l n
    by_cases hlt:n < l.length
    · have hlt':(n:Int) < (l.length:Int):=by omega
      have hB:n < (ByteArray.mk l.toArray).size:=by show n < l.toArray.size;simpa using hlt
      have hbe:((ByteArray.mk l.toArray)[n]'hB).toNat=l[n].toNat:=rfl
      rw [List.drop_eq_getElem_cons hlt,rowN] at hS
      have HL1:Hid _:=HL.out ((ByteArray.mk l.toArray)[n]'hB).toNat
      rw [hbe] at HL1
      by_cases g1:gd false l[n].toNat=true
      · rw [g1] at HL1
        rw [if_pos g1] at hS
        have HR':Hid (R=n+1+rowN false (l.drop (n+1))):=by show R=_;rw [hS];omega
        clear hS g1 hbe HL htk
        as_aux_lemma =>
          go_wp2_with fail
          refine (HL1.out _).mono ?_
          rintro e w1 ⟨rfl,rfl⟩
          go_wp2_with fail
          exact ⟨⟨n+1,by omega,by go_num,HR',trivial⟩,by simp [intOf];omega⟩
      · have g1':gd false l[n].toNat=false:=by simpa using g1
        rw [g1'] at HL1
        rw [if_neg g1] at hS
        have HF:Hid (R=n):=hS
        clear hS g1 g1' hbe HL
        as_aux_lemma =>
          go_wp2_with fail
          refine (HL1.out _).mono ?_
          rintro e w1 ⟨rfl,rfl⟩
          go_wp2_with fail
          go_ret
          exact ⟨congrArg (fun z:Nat=>Ending.returned (Value.string ⟨(l.take z).toArray⟩)) HF.out.symm,rfl⟩
    · have hlt':¬ (n:Int) < (l.length:Int):=by omega
      rw [List.drop_eq_nil_of_le (by omega),rowN] at hS
      have HF:Hid (R=n):=hS
      clear hS HL
      as_aux_lemma =>
        go_wp2_with fail
        go_ret
        exact ⟨congrArg (fun z:Nat=>Ending.returned (Value.string ⟨(l.take z).toArray⟩)) HF.out.symm,rfl⟩
theorem crow_true (l:List UInt8) (hl:l.length≤4611686018427387904) (w:World) :
    Calls Tryz.prog 186 #[.string ⟨l.toArray⟩,fv true] w fun e w'=>e=.returned (.string ⟨(l.take (rowN true l)).toArray⟩)∧w'=w:=by
  have HL:Hid (∀ (c:Nat) (W:World),Calls Tryz.prog 139 #[.int .u8 (c:Int)] W fun e w'=>e=.returned (.bool (gd true c))∧w'=W):=fun c W=>ofname_any c W
  obtain ⟨R,hR⟩:∃ R,R=rowN true l:=⟨_,rfl⟩
  rw [← hR]
  have HR0:Hid (R=0+rowN true (l.drop 0)):=by show R=_;rw [hR,List.drop_zero,Nat.zero_add]
  clear hR
  unfold fv
  go_enter Tryz.func186,Tryz.ntmps186
  go_wp2_with fail
  go_loopw [5] (fun a W=>∃ n:Nat,n≤l.length∧a=.int .i64 (n:Int)∧Hid (R=n+rowN true (l.drop n))∧W=w) (fun a _=>l.length - (intOf a).toNat)
  case atStart=>exact ⟨0,by omega,rfl,HR0,rfl⟩
  case round =>
    obtain ⟨n,hn,rfl,HR,hw⟩:=hrel
    subst wr
    clear HR0
    have hS:=HR.out
    clear HR
    have htk:=take_bytes l n
    by_cases hlt:n < l.length
    · have hlt':(n:Int) < (l.length:Int):=by omega
      have hB:n < (ByteArray.mk l.toArray).size:=by show n < l.toArray.size;simpa using hlt
      have hbe:((ByteArray.mk l.toArray)[n]'hB).toNat=l[n].toNat:=rfl
      rw [List.drop_eq_getElem_cons hlt,rowN] at hS
      have HL1:Hid _:=HL.out ((ByteArray.mk l.toArray)[n]'hB).toNat
      rw [hbe] at HL1
      by_cases g1:gd true l[n].toNat=true
      · rw [g1] at HL1
        rw [if_pos g1] at hS
        have HR':Hid (R=n+1+rowN true (l.drop (n+1))):=by show R=_;rw [hS];omega
        clear hS g1 hbe HL htk
        as_aux_lemma =>
          go_wp2_with fail
          refine (HL1.out _).mono ?_
          rintro e w1 ⟨rfl,rfl⟩
          go_wp2_with fail
          exact ⟨⟨n+1,by omega,by go_num,HR',trivial⟩,by simp [intOf];omega⟩
      · have g1':gd true l[n].toNat=false:=by simpa using g1
        rw [g1'] at HL1
        rw [if_neg g1] at hS
        have HF:Hid (R=n):=hS
        clear hS g1 g1' hbe HL
        as_aux_lemma =>
          go_wp2_with fail
          refine (HL1.out _).mono ?_
          rintro e w1 ⟨rfl,rfl⟩
          go_wp2_with fail
          go_ret
          exact ⟨congrArg (fun z:Nat=>Ending.returned (Value.string ⟨(l.take z).toArray⟩)) HF.out.symm,rfl⟩
    · have hlt':¬ (n:Int) < (l.length:Int):=by omega
      rw [List.drop_eq_nil_of_le (by omega),rowN] at hS
      have HF:Hid (R=n):=hS
      clear hS HL
      as_aux_lemma =>
        go_wp2_with fail
        go_ret
        exact ⟨congrArg (fun z:Nat=>Ending.returned (Value.string ⟨(l.take z).toArray⟩)) HF.out.symm,rfl⟩
theorem crow_any (l:List UInt8) (colon:Bool) (hl:l.length≤4611686018427387904) (w:World) :
    Calls Tryz.prog 186 #[.string ⟨l.toArray⟩,fv colon] w fun e w'=>e=.returned (.string ⟨(l.take (rowN colon l)).toArray⟩)∧w'=w:=by
  cases colon
  · exact crow_false l hl w
  · exact crow_true l hl w
theorem take_eq (l:List UInt8) (n:Nat) (h:n≤l.length):l.take n=l ↔ n=l.length:=by
  constructor
  · intro e
    have:=congrArg List.length e
    rw [List.length_take] at this
    omega
  · intro e
    rw [e,List.take_length]
theorem word_any (l:List UInt8) (colon:Bool) (hl:l.length≤4611686018427387904) (w:World) :
    Calls Tryz.prog 138 #[.string ⟨l.toArray⟩,fv colon] w fun r w'=>r=.returned (.bool (plainB colon l))∧w'=w:=by
  have HR:Hid _:=fun W=>crow_any l colon hl W
  obtain ⟨f,hf⟩:∃ f,f=fv colon:=⟨_,rfl⟩
  rw [← hf] at HR ⊢
  clear hf
  by_cases g0:1≤l.length
  · have i0:(1:Int)≤(l.length:Int):=by omega
    have hB:0 < (ByteArray.mk l.toArray).size:=by show 0 < l.toArray.size;rw [List.size_toArray];omega
    have hbe:=get_zero l g0 hB
    by_cases g1:l.length≤64
    · have i1:(l.length:Int)≤64:=by omega
      have HD:Hid _:=fun W=>cdigit_any ((ByteArray.mk l.toArray)[0]'hB).toNat W
      cases hD:isD ((ByteArray.mk l.toArray)[0]'hB).toNat
      · rw [hD] at HD
        have hd':(decide (48≤(l.getD 0 0).toNat) && decide ((l.getD 0 0).toNat≤57))=false:=by rw [← hbe,← Bool.decide_and];exact hD
        by_cases g2:rowN colon l=l.length
        · rw [(take_eq l _ (rowN_le colon l)).2 g2] at HR
          rw [show plainB colon l=true from by unfold plainB;rw [hd',decide_eq_true g0,decide_eq_true g1,decide_eq_true g2];rfl]
          clear hd' g2 hD hbe
          as_aux_lemma =>
            go_enter Tryz.func138,Tryz.ntmps138
            go_wp2_with (first | (go_at_call 185;refine (HD.out _).mono ?_;rintro e1 w1 ⟨rfl,rfl⟩) | (go_at_call 186;refine (HR.out _).mono ?_;rintro e1 w1 ⟨rfl,rfl⟩))
            go_ret
            exact ⟨rfl,rfl⟩
        · have hq:(l.take (rowN colon l) == l)=false:=by rw [beq_eq_false_iff_ne];exact fun h=>g2 ((take_eq l _ (rowN_le colon l)).1 h)
          rw [show plainB colon l=false from by unfold plainB;rw [decide_eq_false g2];simp]
          obtain ⟨t,ht⟩:∃ t,t=l.take (rowN colon l):=⟨_,rfl⟩
          rw [← ht] at HR hq
          clear hd' g2 hD hbe ht
          as_aux_lemma =>
            go_enter Tryz.func138,Tryz.ntmps138
            go_wp2_with (first | (go_at_call 185;refine (HD.out _).mono ?_;rintro e1 w1 ⟨rfl,rfl⟩) | (go_at_call 186;refine (HR.out _).mono ?_;rintro e1 w1 ⟨rfl,rfl⟩))
            go_ret
            exact ⟨rfl,rfl⟩
      · rw [hD] at HD
        have hd':(decide (48≤(l.getD 0 0).toNat) && decide ((l.getD 0 0).toNat≤57))=true:=by rw [← hbe,← Bool.decide_and];exact hD
        rw [show plainB colon l=false from by unfold plainB;rw [hd'];simp]
        clear hd' hD hbe
        as_aux_lemma =>
          go_enter Tryz.func138,Tryz.ntmps138
          go_wp2_with (first | (go_at_call 185;refine (HD.out _).mono ?_;rintro e1 w1 ⟨rfl,rfl⟩) | (go_at_call 186;refine (HR.out _).mono ?_;rintro e1 w1 ⟨rfl,rfl⟩))
          go_ret
          exact ⟨rfl,rfl⟩
    · have i1:¬ (l.length:Int)≤64:=by omega
      rw [show plainB colon l=false from by unfold plainB;rw [decide_eq_false g1];simp]
      as_aux_lemma =>
        go_enter Tryz.func138,Tryz.ntmps138
        go_wp2_with fail
        go_ret
        exact ⟨rfl,rfl⟩
  · have i0:¬ (1:Int)≤(l.length:Int):=by omega
    rw [show plainB colon l=false from by unfold plainB;rw [decide_eq_false g0];simp]
    as_aux_lemma =>
      go_enter Tryz.func138,Tryz.ntmps138
      go_wp2_with fail
      go_ret
      exact ⟨rfl,rfl⟩
end Go.Proofs.YtibahfopmjiffaaGreatDoor.La
/- RIGHT UTF-8, the document's: tail, Utf, text. Own work of the verifier. -/
set_option maxHeartbeats 1000000
namespace Go.Proofs.YtibahfopmjiffaaGreatDoor.La
open Go.RowKit
def tlB (b:Nat):Bool:=decide (128≤b) && decide (b < 192)
def tlAt (l:List UInt8) (k:Nat):Bool:=decide (k < l.length) && tlB (l.getD k 0).toNat
theorem get_at (l:List UInt8) (k:Nat) (h:k < l.length):(l.getD k 0)=l[k]:=by
  rw [List.getD_eq_getElem?_getD,List.getElem?_eq_getElem h];rfl
theorem tail_any (l:List UInt8) (k:Nat) (_hl:l.length≤4611686018427387904) (w:World) :
    Calls Tryz.prog 130 #[.string ⟨l.toArray⟩,.int .i64 (k:Int)] w fun r w'=>r=.returned (.bool (tlAt l k))∧w'=w:=by
  by_cases h:k < l.length
  · have h':(k:Int) < (l.length:Int):=by omega
    have hB:k < (ByteArray.mk l.toArray).size:=by show k < l.toArray.size;simpa using h
    have hbe:((ByteArray.mk l.toArray)[k]'hB).toNat=l[k].toNat:=rfl
    have hE:tlAt l k=tlB l[k].toNat:=by unfold tlAt;rw [decide_eq_true h,get_at l k h];rfl
    rw [hE]
    by_cases a:128≤l[k].toNat
    · have a':(128:Int)≤(((ByteArray.mk l.toArray)[k]'hB).toNat:Int):=by rw [hbe];omega
      by_cases b:l[k].toNat < 192
      · have b':(((ByteArray.mk l.toArray)[k]'hB).toNat:Int) < 192:=by rw [hbe];omega
        rw [show tlB l[k].toNat=true from by unfold tlB;rw [decide_eq_true a,decide_eq_true b];rfl]
        clear hbe hE a b
        as_aux_lemma =>
          go_enter Tryz.func130,Tryz.ntmps130
          go_wp2_with fail
          go_ret
          exact ⟨rfl,rfl⟩
      · have b':(192:Int)≤(((ByteArray.mk l.toArray)[k]'hB).toNat:Int):=by rw [hbe];omega
        rw [show tlB l[k].toNat=false from by unfold tlB;rw [decide_eq_false b];simp]
        clear hbe hE a b
        as_aux_lemma =>
          go_enter Tryz.func130,Tryz.ntmps130
          go_wp2_with fail
          go_ret
          exact ⟨congrArg (fun b=>Ending.returned (Value.bool b)) (decide_eq_false (by omega)),rfl⟩
    · have a':¬ (128:Int)≤(((ByteArray.mk l.toArray)[k]'hB).toNat:Int):=by rw [hbe];omega
      rw [show tlB l[k].toNat=false from by unfold tlB;rw [decide_eq_false a];simp]
      clear hbe hE a
      as_aux_lemma =>
        go_enter Tryz.func130,Tryz.ntmps130
        go_wp2_with fail
        go_ret
        exact ⟨rfl,rfl⟩
  · have h':¬ (k:Int) < (l.length:Int):=by omega
    rw [show tlAt l k=false from by unfold tlAt;rw [decide_eq_false h];rfl]
    as_aux_lemma =>
      go_enter Tryz.func130,Tryz.ntmps130
      go_wp2_with fail
      go_ret
      exact ⟨rfl,rfl⟩
def cont:Nat→Nat→List UInt8→Option Nat
  | 0,c,_=>some c
  | _+1,_,[]=>none
  | n+1,c,b::r=>if tlB b.toNat then cont n (64*c+b.toNat - 128) r else none
def lead (b:Nat):Option (Nat × Nat):=if 192≤b∧b < 224 then some (1,b - 192) else if 224≤b∧b < 240 then some (2,b - 224) else if 240≤b∧b < 248 then some (3,b - 240) else none
def fine (n c:Nat):Bool:=decide (¬ (n=1∧c < 128∨n=2∧c < 2048∨n=3∧c < 65536∨1114111 < c∨55296≤c∧c≤57343))
def utfB:List UInt8→Bool
  | []=>true
  | b::r=>if b.toNat < 128 then utfB r else
    match lead b.toNat with
    | none=>false
    | some (n,c0)=>match cont n c0 r with
      | none=>false
      | some c=>fine n c && utfB (r.drop n)
termination_by l=>l.length
decreasing_by
  · simp
  · simp;omega
theorem cont_step (l:List UInt8) (k m c:Nat):cont (m+1) c (l.drop k)=if tlAt l k then cont m (64*c+(l.getD k 0).toNat - 128) (l.drop (k+1)) else none:=by
  unfold tlAt
  rcases Nat.lt_or_ge k l.length with g | g
  · rw [List.drop_eq_getElem_cons g,cont,decide_eq_true g,get_at l k g]
    rfl
  · rw [List.drop_eq_nil_of_le g,cont,decide_eq_false (by omega)]
    rfl
theorem utf_low (l:List UInt8) (i:Nat) (h:i < l.length) (hb:l[i].toNat < 128):utfB (l.drop i)=utfB (l.drop (i+1)):=by
  rw [List.drop_eq_getElem_cons h,utfB,if_pos hb]
theorem utf_lead (l:List UInt8) (i n c0:Nat) (h:i < l.length) (hb:¬ l[i].toNat < 128) (hl:lead l[i].toNat=some (n,c0)) :
    utfB (l.drop i)=match cont n c0 (l.drop (i+1)) with
      | none=>false
      | some c=>fine n c && utfB (l.drop (i+(n+1))):=by
  rw [List.drop_eq_getElem_cons h,utfB,if_neg hb,hl]
  simp only
  cases cont n c0 (l.drop (i+1)) with
  | none=>rfl
  | some c =>
    simp only
    rw [List.drop_drop,show i+1+n=i+(n+1) from by omega]
theorem utf_none (l:List UInt8) (i:Nat) (h:i < l.length) (hb:¬ l[i].toNat < 128) (hl:lead l[i].toNat=none):utfB (l.drop i)=false:=by
  rw [List.drop_eq_getElem_cons h,utfB,if_neg hb,hl]
end Go.Proofs.YtibahfopmjiffaaGreatDoor.La
