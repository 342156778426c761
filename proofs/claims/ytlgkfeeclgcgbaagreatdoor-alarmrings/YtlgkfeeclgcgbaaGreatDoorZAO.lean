/- THE LEAVES of label: letters and rows, the document's. Own work of the verifier. -/
import Derived.Test.YtlgkfeeclgcgbaaGreatDoorRows
import Derived.WalkKit
import Derived.WalkSpells
import Derived.RowKit3
import Derived.Below
import Derived.Laws.Externs
import Derived.Outline
import Derived.Deep.QuietTactic
import Derived.BigQuiet
import Derived.Laws.Bits64
import Derived.Laws.BitsAllLaws
import Derived.Laws.DeepStrings4
import Derived.Deep.DeepCutAuto
import Derived.Deep.RegionHeld3
import Derived.Deep.CutBlock
import Derived.Lib.Strings
import Derived.Sort.Walk0
import Derived.Test.YtlgkfeeclgcgbaaGreatDoorZAM
import Derived.Lib.DecodeN
import Derived.Lib.OthersKept
import Derived.Laws.RangeAny
import Derived.Maps.AppendAt
import Derived.Deep.AppendLies
import Derived.Laws.IdiomStrings
import Derived.OwnWalk
namespace Go.Proofs.YtlgkfeeclgcgbaaGreatDoor.La
open Go.RowKit
def isL (c:Nat):Bool:=decide (97≤c∧c≤122∨65≤c∧c≤90∨48≤c∧c≤57∨c=95)
def gd (colon:Bool) (c:Nat):Bool:=isL c || (colon && decide (c=58))
def rowN (colon:Bool):List UInt8→Nat
 | []=>0
 | b::r=>if gd colon b.toNat then rowN colon r+1 else 0
theorem rowN_le (colon:Bool):∀ l:List UInt8,rowN colon l≤l.length
 | []=>Nat.le_refl _
 | b::r=>by
  rw [rowN,List.length_cons]
  have:=rowN_le colon r
  split <;> omega
end Go.Proofs.YtlgkfeeclgcgbaaGreatDoor.La
/- NAMES, the document's: ends, plain, Name, LabelName. Own work of the verifier. -/
namespace Go.Proofs.YtlgkfeeclgcgbaaGreatDoor.La
open Go.RowKit
theorem drop_bytes (l:List UInt8) (k:Nat):(ByteArray.mk l.toArray).extract k l.length=⟨(l.drop k).toArray⟩:=by
 apply ByteArray.ext
 rw [ByteArray.data_extract]
 simp
 exact List.take_of_length_le (by simp)
theorem take_bytes (l:List UInt8) (k:Nat):(ByteArray.mk l.toArray).extract 0 k=⟨(l.take k).toArray⟩:=by
 apply ByteArray.ext
 rw [ByteArray.data_extract]
 simp
def endsB (l e:List UInt8):Bool:=decide (e.length≤l.length) && (l.drop (l.length - e.length) == e)
def plainB (colon:Bool) (l:List UInt8):Bool:=decide (1≤l.length) && decide (l.length≤64) && decide (rowN colon l=l.length) && !(decide (48≤(l.getD 0 0).toNat) && decide ((l.getD 0 0).toNat≤57))
theorem get_zero (l:List UInt8) (h:0 < l.length) (hB:0 < (ByteArray.mk l.toArray).size):((ByteArray.mk l.toArray)[0]'hB).toNat=(l.getD 0 0).toNat:=by
 rw [List.getD_eq_getElem?_getD,List.getElem?_eq_getElem h]
 rfl
def nameB (l:List UInt8):Bool:=plainB true l && !endsB l [95,98,117,99,107,101,116] && !endsB l [95,115,117,109] && !endsB l [95,99,111,117,110,116]
def lnameB (l:List UInt8):Bool:=plainB false l && !(l == [108,101]) && !(l == [113,117,97,110,116,105,108,101]) && !(decide (2≤l.length) && (l.take 2 == [95,95]))
end Go.Proofs.YtlgkfeeclgcgbaaGreatDoor.La
/- THE CODE'S LEAVES: letters, digits. Own work of the verifier. -/
namespace Go.Proofs.YtlgkfeeclgcgbaaGreatDoor.La
open Go.RowKit
def isD (c:Nat):Bool:=decide (48≤c∧c≤57)
def isA (c:Nat):Bool:=decide (97≤c∧c≤122∨65≤c∧c≤90)
theorem isL_eq (c:Nat):isL c=(isA c || isD c || decide (c=95)):=by
 unfold isL isA isD
 rw [Bool.eq_iff_iff]
 simp only [Bool.or_eq_true,decide_eq_true_eq]
 omega
theorem cdigit_any (c:Nat) (w:World) :
  Calls Tryz.prog 54 #[.int .u8 (c:Int)] w fun e w'=>e=.returned (.bool (isD c))∧w'=w:=by
 by_cases a1:48≤c
 ·have i1:(48:Int)≤(c:Int):=by omega
  by_cases a2:c≤57
  ·have i2:(c:Int)≤57:=by omega
   rw [show isD c=true from decide_eq_true (by omega)]
   as_aux_lemma =>
    go_enter Tryz.func54,Tryz.ntmps54
    go_wp2_with fail
    go_ret
    exact ⟨rfl,rfl⟩
  ·have i2:¬ (c:Int)≤57:=by omega
   rw [show isD c=false from decide_eq_false (by omega)]
   as_aux_lemma =>
    go_enter Tryz.func54,Tryz.ntmps54
    go_wp2_with fail
    go_ret
    exact ⟨rfl,rfl⟩
 ·have i1:¬ (48:Int)≤(c:Int):=by omega
  rw [show isD c=false from decide_eq_false (by omega)]
  as_aux_lemma =>
   go_enter Tryz.func54,Tryz.ntmps54
   go_wp2_with fail
   go_ret
   exact ⟨rfl,rfl⟩
theorem cletter_any (c:Nat) (w:World) :
  Calls Tryz.prog 71 #[.int .u8 (c:Int)] w fun e w'=>e=.returned (.bool (isA c))∧w'=w:=by
 by_cases a1:97≤c
 ·have i1:(97:Int)≤(c:Int):=by omega
  by_cases a2:c≤122
  ·have i2:(c:Int)≤122:=by omega
   rw [show isA c=true from decide_eq_true (by omega)]
   as_aux_lemma =>
    go_enter Tryz.func71,Tryz.ntmps71
    go_wp2_with fail
    go_ret
    exact ⟨rfl,rfl⟩
  ·have i2:¬ (c:Int)≤122:=by omega
   have i3:(65:Int)≤(c:Int):=by omega
   have i4:¬ (c:Int)≤90:=by omega
   rw [show isA c=false from decide_eq_false (by omega)]
   as_aux_lemma =>
    go_enter Tryz.func71,Tryz.ntmps71
    go_wp2_with fail
    go_ret
    exact ⟨rfl,rfl⟩
 ·have i1:¬ (97:Int)≤(c:Int):=by omega
  by_cases a3:65≤c
  ·have i3:(65:Int)≤(c:Int):=by omega
   by_cases a4:c≤90
   ·have i4:(c:Int)≤90:=by omega
    rw [show isA c=true from decide_eq_true (by omega)]
    as_aux_lemma =>
     go_enter Tryz.func71,Tryz.ntmps71
     go_wp2_with fail
     go_ret
     exact ⟨rfl,rfl⟩
   ·have i4:¬ (c:Int)≤90:=by omega
    rw [show isA c=false from decide_eq_false (by omega)]
    as_aux_lemma =>
     go_enter Tryz.func71,Tryz.ntmps71
     go_wp2_with fail
     go_ret
     exact ⟨rfl,rfl⟩
  ·have i3:¬ (65:Int)≤(c:Int):=by omega
   rw [show isA c=false from decide_eq_false (by omega)]
   as_aux_lemma =>
    go_enter Tryz.func71,Tryz.ntmps71
    go_wp2_with fail
    go_ret
    exact ⟨rfl,rfl⟩
theorem oflab_any (c:Nat) (w:World) :
  Calls Tryz.prog 56 #[.int .u8 (c:Int)] w fun e w'=>e=.returned (.bool (gd false c))∧w'=w:=by
 have HA:Hid _:=fun W=>cletter_any c W
 have HD:Hid _:=fun W=>cdigit_any c W
 have h0:gd false c=isL c:=by simp [gd]
 rw [h0,isL_eq]
 clear h0
 cases hA:isA c
 ·rw [hA] at HA
  cases hD:isD c
  ·rw [hD] at HD
   by_cases h95:c=95
   ·have t:((c:Int) == 95)=true:=by rw [beq_iff_eq];omega
    rw [show decide (c=95)=true from decide_eq_true h95]
    clear h95
    as_aux_lemma =>
     go_enter Tryz.func56,Tryz.ntmps56
     go_wp2_with (first | (go_at_call 71;refine (HA.out _).mono ?_;rintro e1 w1 ⟨rfl,rfl⟩) | (go_at_call 54;refine (HD.out _).mono ?_;rintro e1 w1 ⟨rfl,rfl⟩))
     go_ret
     exact ⟨rfl,rfl⟩
   ·have t:((c:Int) == 95)=false:=by rw [beq_eq_false_iff_ne];omega
    rw [show decide (c=95)=false from decide_eq_false h95]
    clear h95
    as_aux_lemma =>
     go_enter Tryz.func56,Tryz.ntmps56
     go_wp2_with (first | (go_at_call 71;refine (HA.out _).mono ?_;rintro e1 w1 ⟨rfl,rfl⟩) | (go_at_call 54;refine (HD.out _).mono ?_;rintro e1 w1 ⟨rfl,rfl⟩))
     go_ret
     exact ⟨rfl,rfl⟩
  ·rw [hD] at HD
   as_aux_lemma =>
    go_enter Tryz.func56,Tryz.ntmps56
    go_wp2_with (first | (go_at_call 71;refine (HA.out _).mono ?_;rintro e1 w1 ⟨rfl,rfl⟩) | (go_at_call 54;refine (HD.out _).mono ?_;rintro e1 w1 ⟨rfl,rfl⟩))
    go_ret
    exact ⟨by simp,rfl⟩
 ·rw [hA] at HA
  as_aux_lemma =>
   go_enter Tryz.func56,Tryz.ntmps56
   go_wp2_with (first | (go_at_call 71;refine (HA.out _).mono ?_;rintro e1 w1 ⟨rfl,rfl⟩) | (go_at_call 54;refine (HD.out _).mono ?_;rintro e1 w1 ⟨rfl,rfl⟩))
   go_ret
   exact ⟨by simp,rfl⟩
theorem ofname_any (c:Nat) (w:World) :
  Calls Tryz.prog 38 #[.int .u8 (c:Int)] w fun e w'=>e=.returned (.bool (gd true c))∧w'=w:=by
 have HA:Hid _:=fun W=>oflab_any c W
 have h0:gd true c=(gd false c || decide (c=58)):=by simp [gd]
 rw [h0]
 clear h0
 cases hA:gd false c
 ·rw [hA] at HA
  by_cases h58:c=58
  ·have t:((c:Int) == 58)=true:=by rw [beq_iff_eq];omega
   rw [show decide (c=58)=true from decide_eq_true h58]
   clear h58
   as_aux_lemma =>
    go_enter Tryz.func38,Tryz.ntmps38
    go_wp2_with (go_at_call 56;refine (HA.out _).mono ?_;rintro e1 w1 ⟨rfl,rfl⟩)
    go_ret
    exact ⟨rfl,rfl⟩
  ·have t:((c:Int) == 58)=false:=by rw [beq_eq_false_iff_ne];omega
   rw [show decide (c=58)=false from decide_eq_false h58]
   clear h58
   as_aux_lemma =>
    go_enter Tryz.func38,Tryz.ntmps38
    go_wp2_with (go_at_call 56;refine (HA.out _).mono ?_;rintro e1 w1 ⟨rfl,rfl⟩)
    go_ret
    exact ⟨rfl,rfl⟩
 ·rw [hA] at HA
  as_aux_lemma =>
   go_enter Tryz.func38,Tryz.ntmps38
   go_wp2_with (go_at_call 56;refine (HA.out _).mono ?_;rintro e1 w1 ⟨rfl,rfl⟩)
   go_ret
   exact ⟨by simp,rfl⟩
end Go.Proofs.YtlgkfeeclgcgbaaGreatDoor.La
/- THE CODE'S row AND isWord. Own work of the verifier. -/
set_option maxRecDepth 100000
set_option maxHeartbeats 1000000
namespace Go.Proofs.YtlgkfeeclgcgbaaGreatDoor.La
open Go.RowKit
def fv:Bool→Value
 | true=>.func (.func 38) #[] #[]
 | false=>.func (.func 56) #[] #[]
theorem crow_false (l:List UInt8) (hl:l.length≤4611686018427387904) (w:World) :
  Calls Tryz.prog 55 #[.string ⟨l.toArray⟩,fv false] w fun e w'=>e=.returned (.string ⟨(l.take (rowN false l)).toArray⟩)∧w'=w:=by
 have HL:Hid (∀ (c:Nat) (W:World),Calls Tryz.prog 56 #[.int .u8 (c:Int)] W fun e w'=>e=.returned (.bool (gd false c))∧w'=W):=fun c W=>oflab_any c W
 obtain ⟨R,hR⟩:∃ R,R=rowN false l:=⟨_,rfl⟩
 rw [← hR]
 have HR0:Hid (R=0+rowN false (l.drop 0)):=by show R=_;rw [hR,List.drop_zero,Nat.zero_add]
 clear hR
 unfold fv
 go_enter Tryz.func55,Tryz.ntmps55
 go_wp2_with fail
 go_loopw [5] (fun a W=>∃ n:Nat,n≤l.length∧a=.int .i64 (n:Int)∧Hid (R=n+rowN false (l.drop n))∧W=w) (fun a _=>l.length - (intOf a).toNat)
 case atStart=>exact ⟨0,by omega,rfl,HR0,rfl⟩
 case round =>
  obtain ⟨n,hn,rfl,HR,hw⟩:=hrel
  subst wr
  clear HR0
  have hS:=HR.out
  clear HR
  have htk:=take_bytes l n
  by_cases hlt:n < l.length
  ·have hlt':(n:Int) < (l.length:Int):=by omega
   have hB:n < (ByteArray.mk l.toArray).size:=by show n < l.toArray.size;simpa using hlt
   have hbe:((ByteArray.mk l.toArray)[n]'hB).toNat=l[n].toNat:=rfl
   rw [List.drop_eq_getElem_cons hlt,rowN] at hS
   have HL1:Hid _:=HL.out ((ByteArray.mk l.toArray)[n]'hB).toNat
   rw [hbe] at HL1
   by_cases g1:gd false l[n].toNat=true
   ·rw [g1] at HL1
    rw [if_pos g1] at hS
    have HR':Hid (R=n+1+rowN false (l.drop (n+1))):=by show R=_;rw [hS];omega
    clear hS g1 hbe HL htk
    as_aux_lemma =>
     go_wp2_with fail
     refine (HL1.out _).mono ?_
     rintro e w1 ⟨rfl,rfl⟩
     go_wp2_with fail
     exact ⟨⟨n+1,by omega,by go_num,HR',trivial⟩,by simp [intOf];omega⟩
   ·have g1':gd false l[n].toNat=false:=by simpa using g1
    rw [g1'] at HL1
    rw [if_neg g1] at hS
    have HF:Hid (R=n):=hS
    clear hS g1 g1' hbe HL
    as_aux_lemma =>
     go_wp2_with fail
     refine (HL1.out _).mono ?_
     rintro e w1 ⟨rfl,rfl⟩
     go_wp2_with fail
     go_ret
     exact ⟨congrArg (fun z:Nat=>Ending.returned (Value.string ⟨(l.take z).toArray⟩)) HF.out.symm,rfl⟩
  ·have hlt':¬ (n:Int) < (l.length:Int):=by omega
   rw [List.drop_eq_nil_of_le (by omega),rowN] at hS
   have HF:Hid (R=n):=hS
   clear hS HL
   as_aux_lemma =>
    go_wp2_with fail
    go_ret
    exact ⟨congrArg (fun z:Nat=>Ending.returned (Value.string ⟨(l.take z).toArray⟩)) HF.out.symm,rfl⟩
theorem crow_true (l:List UInt8) (hl:l.length≤4611686018427387904) (w:World) :
  Calls Tryz.prog 55 #[.string ⟨l.toArray⟩,fv true] w fun e w'=>e=.returned (.string ⟨(l.take (rowN true l)).toArray⟩)∧w'=w:=by
 have HL:Hid (∀ (c:Nat) (W:World),Calls Tryz.prog 38 #[.int .u8 (c:Int)] W fun e w'=>e=.returned (.bool (gd true c))∧w'=W):=fun c W=>ofname_any c W
 obtain ⟨R,hR⟩:∃ R,R=rowN true l:=⟨_,rfl⟩
 rw [← hR]
 have HR0:Hid (R=0+rowN true (l.drop 0)):=by show R=_;rw [hR,List.drop_zero,Nat.zero_add]
 clear hR
 unfold fv
 go_enter Tryz.func55,Tryz.ntmps55
 go_wp2_with fail
 go_loopw [5] (fun a W=>∃ n:Nat,n≤l.length∧a=.int .i64 (n:Int)∧Hid (R=n+rowN true (l.drop n))∧W=w) (fun a _=>l.length - (intOf a).toNat)
 case atStart=>exact ⟨0,by omega,rfl,HR0,rfl⟩
 case round =>
  obtain ⟨n,hn,rfl,HR,hw⟩:=hrel
  subst wr
  clear HR0
  have hS:=HR.out
  clear HR
  have htk:=take_bytes l n
  by_cases hlt:n < l.length
  ·have hlt':(n:Int) < (l.length:Int):=by omega
   have hB:n < (ByteArray.mk l.toArray).size:=by show n < l.toArray.size;simpa using hlt
   have hbe:((ByteArray.mk l.toArray)[n]'hB).toNat=l[n].toNat:=rfl
   rw [List.drop_eq_getElem_cons hlt,rowN] at hS
   have HL1:Hid _:=HL.out ((ByteArray.mk l.toArray)[n]'hB).toNat
   rw [hbe] at HL1
   by_cases g1:gd true l[n].toNat=true
   ·rw [g1] at HL1
    rw [if_pos g1] at hS
    have HR':Hid (R=n+1+rowN true (l.drop (n+1))):=by show R=_;rw [hS];omega
    clear hS g1 hbe HL htk
    as_aux_lemma =>
     go_wp2_with fail
     refine (HL1.out _).mono ?_
     rintro e w1 ⟨rfl,rfl⟩
     go_wp2_with fail
     exact ⟨⟨n+1,by omega,by go_num,HR',trivial⟩,by simp [intOf];omega⟩
   ·have g1':gd true l[n].toNat=false:=by simpa using g1
    rw [g1'] at HL1
    rw [if_neg g1] at hS
    have HF:Hid (R=n):=hS
    clear hS g1 g1' hbe HL
    as_aux_lemma =>
     go_wp2_with fail
     refine (HL1.out _).mono ?_
     rintro e w1 ⟨rfl,rfl⟩
     go_wp2_with fail
     go_ret
     exact ⟨congrArg (fun z:Nat=>Ending.returned (Value.string ⟨(l.take z).toArray⟩)) HF.out.symm,rfl⟩
  ·have hlt':¬ (n:Int) < (l.length:Int):=by omega
   rw [List.drop_eq_nil_of_le (by omega),rowN] at hS
   have HF:Hid (R=n):=hS
   clear hS HL
   as_aux_lemma =>
    go_wp2_with fail
    go_ret
    exact ⟨congrArg (fun z:Nat=>Ending.returned (Value.string ⟨(l.take z).toArray⟩)) HF.out.symm,rfl⟩
theorem crow_any (l:List UInt8) (colon:Bool) (hl:l.length≤4611686018427387904) (w:World) :
  Calls Tryz.prog 55 #[.string ⟨l.toArray⟩,fv colon] w fun e w'=>e=.returned (.string ⟨(l.take (rowN colon l)).toArray⟩)∧w'=w:=by
 cases colon
 ·exact crow_false l hl w
 ·exact crow_true l hl w
theorem take_eq (l:List UInt8) (n:Nat) (h:n≤l.length):l.take n=l ↔ n=l.length:=by
 constructor
 ·intro e
  have:=congrArg List.length e
  rw [List.length_take] at this
  omega
 ·intro e
  rw [e,List.take_length]
theorem word_any (l:List UInt8) (colon:Bool) (hl:l.length≤4611686018427387904) (w:World) :
  Calls Tryz.prog 37 #[.string ⟨l.toArray⟩,fv colon] w fun r w'=>r=.returned (.bool (plainB colon l))∧w'=w:=by
 have HR:Hid _:=fun W=>crow_any l colon hl W
 obtain ⟨f,hf⟩:∃ f,f=fv colon:=⟨_,rfl⟩
 rw [← hf] at HR ⊢
 clear hf
 by_cases g0:1≤l.length
 ·have i0:(1:Int)≤(l.length:Int):=by omega
  have hB:0 < (ByteArray.mk l.toArray).size:=by show 0 < l.toArray.size;rw [List.size_toArray];omega
  have hbe:=get_zero l g0 hB
  by_cases g1:l.length≤64
  ·have i1:(l.length:Int)≤64:=by omega
   have HD:Hid _:=fun W=>cdigit_any ((ByteArray.mk l.toArray)[0]'hB).toNat W
   cases hD:isD ((ByteArray.mk l.toArray)[0]'hB).toNat
   ·rw [hD] at HD
    have hd':(decide (48≤(l.getD 0 0).toNat) && decide ((l.getD 0 0).toNat≤57))=false:=by rw [← hbe,← Bool.decide_and];exact hD
    by_cases g2:rowN colon l=l.length
    ·rw [(take_eq l _ (rowN_le colon l)).2 g2] at HR
     rw [show plainB colon l=true from by unfold plainB;rw [hd',decide_eq_true g0,decide_eq_true g1,decide_eq_true g2];rfl]
     clear hd' g2 hD hbe
     as_aux_lemma =>
      go_enter Tryz.func37,Tryz.ntmps37
      go_wp2_with (first | (go_at_call 54;refine (HD.out _).mono ?_;rintro e1 w1 ⟨rfl,rfl⟩) | (go_at_call 55;refine (HR.out _).mono ?_;rintro e1 w1 ⟨rfl,rfl⟩))
      go_ret
      exact ⟨rfl,rfl⟩
    ·have hq:(l.take (rowN colon l) == l)=false:=by rw [beq_eq_false_iff_ne];exact fun h=>g2 ((take_eq l _ (rowN_le colon l)).1 h)
     rw [show plainB colon l=false from by unfold plainB;rw [decide_eq_false g2];simp]
     obtain ⟨t,ht⟩:∃ t,t=l.take (rowN colon l):=⟨_,rfl⟩
     rw [← ht] at HR hq
     clear hd' g2 hD hbe ht
     as_aux_lemma =>
      go_enter Tryz.func37,Tryz.ntmps37
      go_wp2_with (first | (go_at_call 54;refine (HD.out _).mono ?_;rintro e1 w1 ⟨rfl,rfl⟩) | (go_at_call 55;refine (HR.out _).mono ?_;rintro e1 w1 ⟨rfl,rfl⟩))
      go_ret
      exact ⟨rfl,rfl⟩
   ·rw [hD] at HD
    have hd':(decide (48≤(l.getD 0 0).toNat) && decide ((l.getD 0 0).toNat≤57))=true:=by rw [← hbe,← Bool.decide_and];exact hD
    rw [show plainB colon l=false from by unfold plainB;rw [hd'];simp]
    clear hd' hD hbe
    as_aux_lemma =>
     go_enter Tryz.func37,Tryz.ntmps37
     go_wp2_with (first | (go_at_call 54;refine (HD.out _).mono ?_;rintro e1 w1 ⟨rfl,rfl⟩) | (go_at_call 55;refine (HR.out _).mono ?_;rintro e1 w1 ⟨rfl,rfl⟩))
     go_ret
     exact ⟨rfl,rfl⟩
  ·have i1:¬ (l.length:Int)≤64:=by omega
   rw [show plainB colon l=false from by unfold plainB;rw [decide_eq_false g1];simp]
   as_aux_lemma =>
    go_enter Tryz.func37,Tryz.ntmps37
    go_wp2_with fail
    go_ret
    exact ⟨rfl,rfl⟩
 ·have i0:¬ (1:Int)≤(l.length:Int):=by omega
  rw [show plainB colon l=false from by unfold plainB;rw [decide_eq_false g0];simp]
  as_aux_lemma =>
   go_enter Tryz.func37,Tryz.ntmps37
   go_wp2_with fail
   go_ret
   exact ⟨rfl,rfl⟩
end Go.Proofs.YtlgkfeeclgcgbaaGreatDoor.La
/- RIGHT UTF-8, the document's: tail, Utf, text. Own work of the verifier. -/
namespace Go.Proofs.YtlgkfeeclgcgbaaGreatDoor.La
open Go.RowKit
def tlB (b:Nat):Bool:=decide (128≤b) && decide (b < 192)
def tlAt (l:List UInt8) (k:Nat):Bool:=decide (k < l.length) && tlB (l.getD k 0).toNat
theorem get_at (l:List UInt8) (k:Nat) (h:k < l.length):(l.getD k 0)=l[k]:=by
 rw [List.getD_eq_getElem?_getD,List.getElem?_eq_getElem h];rfl
def cont:Nat→Nat→List UInt8→Option Nat
 | 0,c,_=>some c
 | _+1,_,[]=>none
 | n+1,c,b::r=>if tlB b.toNat then cont n (64*c+b.toNat - 128) r else none
def lead (b:Nat):Option (Nat × Nat):=if 192≤b∧b < 224 then some (1,b - 192) else if 224≤b∧b < 240 then some (2,b - 224) else if 240≤b∧b < 248 then some (3,b - 240) else none
def fine (n c:Nat):Bool:=decide (¬ (n=1∧c < 128∨n=2∧c < 2048∨n=3∧c < 65536∨1114111 < c∨55296≤c∧c≤57343))
def utfB:List UInt8→Bool
 | []=>true
 | b::r=>if b.toNat < 128 then utfB r else
  match lead b.toNat with
  | none=>false
  | some (n,c0)=>match cont n c0 r with
   | none=>false
   | some c=>fine n c && utfB (r.drop n)
termination_by l=>l.length
decreasing_by
 ·simp
 ·simp;omega
theorem cont_step (l:List UInt8) (k m c:Nat):cont (m+1) c (l.drop k)=if tlAt l k then cont m (64*c+(l.getD k 0).toNat - 128) (l.drop (k+1)) else none:=by
 unfold tlAt
 rcases Nat.lt_or_ge k l.length with g | g
 ·rw [List.drop_eq_getElem_cons g,cont,decide_eq_true g,get_at l k g]
  rfl
 ·rw [List.drop_eq_nil_of_le g,cont,decide_eq_false (by omega)]
  rfl
theorem utf_low (l:List UInt8) (i:Nat) (h:i < l.length) (hb:l[i].toNat < 128):utfB (l.drop i)=utfB (l.drop (i+1)):=by
 rw [List.drop_eq_getElem_cons h,utfB,if_pos hb]
theorem utf_lead (l:List UInt8) (i n c0:Nat) (h:i < l.length) (hb:¬ l[i].toNat < 128) (hl:lead l[i].toNat=some (n,c0)) :
  utfB (l.drop i)=match cont n c0 (l.drop (i+1)) with
   | none=>false
   | some c=>fine n c && utfB (l.drop (i+(n+1))):=by
 rw [List.drop_eq_getElem_cons h,utfB,if_neg hb,hl]
 simp only
 cases cont n c0 (l.drop (i+1)) with
 | none=>rfl
 | some c =>
  simp only
  rw [List.drop_drop,show i+1+n=i+(n+1) from by omega]
theorem utf_none (l:List UInt8) (i:Nat) (h:i < l.length) (hb:¬ l[i].toNat < 128) (hl:lead l[i].toNat=none):utfB (l.drop i)=false:=by
 rw [List.drop_eq_getElem_cons h,utfB,if_neg hb,hl]
end Go.Proofs.YtlgkfeeclgcgbaaGreatDoor.La
/- text, behind, order, the document's. Own work of the verifier. -/
namespace Go.Proofs.YtlgkfeeclgcgbaaGreatDoor.La
open Go.RowKit
def txE (l:List UInt8):Int:=if 1024 < l.length then 4 else if utfB l then 0 else 11
def bltB (a b:List UInt8):Bool:=decide (a < b)
theorem less_list (a b:List UInt8):Op.bytesLess a b=bltB a b:=by
 unfold bltB
 rw [Proofs.bytesLess_eq]
def bhE (a b:List UInt8):Int:=if a=b then 10 else if bltB b a then 15 else 0
def ordE (a b:List UInt8):Int:=if bltB a b then -1 else if bltB b a then 1 else 0
end Go.Proofs.YtlgkfeeclgcgbaaGreatDoor.La
/- THE CODE'S Name AND LabelName. Own work of the verifier. -/
set_option maxHeartbeats 1000000
namespace Go.Proofs.YtlgkfeeclgcgbaaGreatDoor.La
open Go.RowKit
theorem suf_any (l e:List UInt8) (hl:l.length≤4611686018427387904) (w:World) :
  Calls Tryz.prog 36 #[.string ⟨l.toArray⟩,.string ⟨e.toArray⟩] w fun r w'=>r=.returned (.bool (endsB l e))∧w'=w:=by
 have h:=Tryz.strings_HasSuffix ⟨l.toArray⟩ ⟨e.toArray⟩ w (by show l.toArray.size≤_;rw [List.size_toArray];omega)
 rw [← Lib.hasSuffix_of_drop] at h
 exact h
def preB (l p:List UInt8):Bool:=decide (p.length≤l.length) && (l.take p.length == p)
theorem pre_any (l p:List UInt8) (w:World) :
  Calls Tryz.prog 110 #[.string ⟨l.toArray⟩,.string ⟨p.toArray⟩] w fun r w'=>r=.returned (.bool (preB l p))∧w'=w:=by
 have h:=Tryz.strings_HasPrefix ⟨l.toArray⟩ ⟨p.toArray⟩ w
 rw [← Lib.hasPrefix_of_take] at h
 exact h
theorem cmp_ord:∀ a b:List UInt8,Lib.compareBytes a b=ordE a b
 | [],[]=>by rfl
 | [],b::ys=>by unfold ordE bltB;simp [Lib.compareBytes]
 | a::xs,[]=>by unfold ordE bltB;simp [Lib.compareBytes]
 | a::xs,b::ys=>by
  rw [Lib.compareBytes]
  have ih:=cmp_ord xs ys
  unfold ordE bltB at ih ⊢
  by_cases h1:a < b
  ·rw [if_pos h1,if_pos (decide_eq_true (List.cons_lt_cons_iff.2 (Or.inl h1)))]
  ·rw [if_neg h1]
   by_cases h2:b < a
   ·rw [if_pos h2,if_neg,if_pos (decide_eq_true (List.cons_lt_cons_iff.2 (Or.inl h2)))]
    intro h
    rcases List.cons_lt_cons_iff.1 (of_decide_eq_true h) with k | ⟨k,_⟩
    ·exact h1 k
    ·exact h1 (by rw [k] at h2;exact absurd h2 (UInt8.lt_irrefl _))
   ·rw [if_neg h2,ih]
    have e:a=b:=UInt8.le_antisymm (UInt8.not_lt.1 h2) (UInt8.not_lt.1 h1)
    subst e
    simp
theorem cmp_any (a b:List UInt8) (w:World) :
  Calls Tryz.prog 121 #[.string ⟨a.toArray⟩,.string ⟨b.toArray⟩] w fun r w'=>r=.returned (.int .i64 (ordE a b))∧w'=w:=by
 have h:=Tryz.strings_Compare ⟨a.toArray⟩ ⟨b.toArray⟩ w
 rw [cmp_ord] at h
 exact h
theorem cname_any (l:List UInt8) (hl:l.length≤4611686018427387904) (w:World) :
  Calls Tryz.prog 22 #[.string ⟨l.toArray⟩] w fun r w'=>r=.returned (.bool (nameB l))∧w'=w:=by
 have H1:Hid _:=fun W=>suf_any l [95,98,117,99,107,101,116] hl W
 have H2:Hid _:=fun W=>suf_any l [95,115,117,109] hl W
 have H3:Hid _:=fun W=>suf_any l [95,99,111,117,110,116] hl W
 have HW:Hid _:=fun W=>word_any l true hl W
 have hN:nameB l=(plainB true l && !(endsB l [95,98,117,99,107,101,116] || endsB l [95,115,117,109] || endsB l [95,99,111,117,110,116])):=by
  unfold nameB
  cases plainB true l <;> cases endsB l [95,98,117,99,107,101,116] <;> cases endsB l [95,115,117,109] <;> cases endsB l [95,99,111,117,110,116] <;> rfl
 rw [hN]
 clear hN
 unfold fv at HW
 generalize plainB true l=p at *
 generalize endsB l [95,98,117,99,107,101,116]=a at *
 generalize endsB l [95,115,117,109]=b at *
 generalize endsB l [95,99,111,117,110,116]=c at *
 cases p <;> cases a <;> cases b <;> cases c <;> as_aux_lemma =>
  go_enter Tryz.func22,Tryz.ntmps22
  go_wp2_with (first | (go_at_call 36;first | (with_reducible refine (H1.out _).mono ?_;rintro e1 w1 ⟨rfl,rfl⟩) | (with_reducible refine (H2.out _).mono ?_;rintro e1 w1 ⟨rfl,rfl⟩) | (with_reducible refine (H3.out _).mono ?_;rintro e1 w1 ⟨rfl,rfl⟩)) | (go_at_call 37;refine (HW.out _).mono ?_;rintro e1 w1 ⟨rfl,rfl⟩))
  go_ret
  exact ⟨rfl,rfl⟩
theorem clname_any (l:List UInt8) (hl:l.length≤4611686018427387904) (w:World) :
  Calls Tryz.prog 80 #[.string ⟨l.toArray⟩] w fun r w'=>r=.returned (.bool (lnameB l))∧w'=w:=by
 have H1:Hid _:=fun W=>pre_any l [95,95] W
 have HW:Hid _:=fun W=>word_any l false hl W
 have hN:lnameB l=(plainB false l && !((l == [108,101]) || (l == [113,117,97,110,116,105,108,101]) || preB l [95,95])):=by
  unfold lnameB preB
  show _=(plainB false l && !((l == [108,101]) || (l == [113,117,97,110,116,105,108,101]) || (decide (2≤l.length) && (l.take 2 == [95,95]))))
  cases plainB false l <;> cases (l == [108,101]) <;> cases (l == [113,117,97,110,116,105,108,101]) <;> cases (decide (2≤l.length) && (l.take 2 == [95,95])) <;> rfl
 rw [hN]
 clear hN
 unfold fv at HW
 generalize plainB false l=p at *
 generalize preB l [95,95]=c at *
 cases h1:(l == [108,101]) <;> cases h2:(l == [113,117,97,110,116,105,108,101]) <;> cases p <;> cases c <;> as_aux_lemma =>
  go_enter Tryz.func80,Tryz.ntmps80
  go_wp2_with (first | (go_at_call 110;refine (H1.out _).mono ?_;rintro e1 w1 ⟨rfl,rfl⟩) | (go_at_call 37;refine (HW.out _).mono ?_;rintro e1 w1 ⟨rfl,rfl⟩))
  go_ret
  exact ⟨rfl,rfl⟩
end Go.Proofs.YtlgkfeeclgcgbaaGreatDoor.La
/- RIGHT UTF-8, as the language's own range over a text tells it. Own work of the verifier. -/
set_option maxHeartbeats 4000000
namespace Go.Proofs.YtlgkfeeclgcgbaaGreatDoor.La
open Go.RowKit
theorem get_bang (l:List UInt8) (k:Nat):(ByteArray.mk l.toArray).get! k=l.getD k 0:=by
 show l.toArray.get!Internal k=_
 rw [List.getD_eq_getElem?_getD]
 simp [Array.get!Internal]
 rfl
theorem tl_iff (l:List UInt8) (k:Nat):tlAt l k=decide (k < l.length∧(l.getD k 0).toNat / 64=2):=by
 unfold tlAt tlB
 have:=(l.getD k 0).toNat_lt
 rw [Bool.eq_iff_iff]
 simp only [Bool.and_eq_true,decide_eq_true_eq]
 omega
def badAt (l:List UInt8) (i r:Nat):Prop:=r=65533∧¬ (3≤l.length - i∧(l.getD i 0).toNat=239∧(l.getD (i+1) 0).toNat=191∧(l.getD (i+2) 0).toNat=189)
theorem fine_true {n c:Nat} (h:¬ (n=1∧c < 128∨n=2∧c < 2048∨n=3∧c < 65536∨1114111 < c∨55296≤c∧c≤57343)):fine n c=true:=decide_eq_true h
theorem fine_false {n c:Nat} (h:n=1∧c < 128∨n=2∧c < 2048∨n=3∧c < 65536∨1114111 < c∨55296≤c∧c≤57343):fine n c=false:=decide_eq_false (fun k=>k h)
theorem utf_step (l:List UInt8) (i r n:Nat) (h:i < l.length) (hd:Utf8.decode ⟨l.toArray⟩ i=(r,n)) :
  1≤n∧i+n≤l.length∧r≤1114111∧(badAt l i r∧utfB (l.drop i)=false∨¬ badAt l i r∧utfB (l.drop i)=utfB (l.drop (i+n))):=by
 rw [Lib.decode_at,get_bang,get_bang,get_bang,get_bang] at hd
 have e0:l.getD i 0=l[i]:=get_at l i h
 have hsz:(ByteArray.mk l.toArray).size=l.length:=by show l.toArray.size=_;simp
 rw [hsz] at hd
 have q0:=(l.getD i 0).toNat_lt
 have q1:=(l.getD (i+1) 0).toNat_lt
 have q2:=(l.getD (i+2) 0).toNat_lt
 have q3:=(l.getD (i+3) 0).toNat_lt
 have t1:=tl_iff l (i+1)
 have t2:=tl_iff l (i+2)
 have t3:=tl_iff l (i+3)
 have c1:=cont_step l (i+1)
 have c2:=cont_step l (i+2)
 have c3:=cont_step l (i+3)
 unfold badAt
 have u0:=utf_low l i h
 have u1:=fun n c0=>utf_lead l i n c0 h
 have u2:=utf_none l i h
 rw [← e0] at u0 u1 u2
 clear e0
 generalize (l.getD i 0).toNat=b0 at *
 generalize (l.getD (i+1) 0).toNat=b1 at *
 generalize (l.getD (i+2) 0).toNat=b2 at *
 generalize (l.getD (i+3) 0).toNat=b3 at *
 have bad:∀ m,(65533,1)=(r,n)→utfB (l.drop i)=false→¬ (3≤l.length - i∧b0=239∧b1=191∧b2=189)→1≤n∧i+n≤l.length∧r≤1114111∧((r=65533∧¬ (3≤l.length - i∧b0=239∧b1=191∧b2=189))∧utfB (l.drop i)=false∨¬ (r=65533∧¬ (3≤l.length - i∧b0=239∧b1=191∧b2=189))∧utfB (l.drop i)=m):=by
  intro m e1 e2 e3
  obtain ⟨rfl,rfl⟩:=Prod.mk.inj e1
  exact ⟨Nat.le_refl _,by omega,by omega,Or.inl ⟨⟨rfl,e3⟩,e2⟩⟩
 by_cases g1:b0 < 128
 ·rw [Lib.decodeN,if_pos g1] at hd
  obtain ⟨rfl,rfl⟩:=Prod.mk.inj hd
  exact ⟨Nat.le_refl _,by omega,by omega,Or.inr ⟨by omega,u0 g1⟩⟩
 by_cases g2:b0 < 192
 ·rw [Lib.decodeN,if_neg g1,if_neg (by omega),if_neg (by omega),if_neg (by omega)] at hd
  refine bad _ hd (u2 g1 ?_) (by omega)
  unfold lead
  rw [if_neg (by omega),if_neg (by omega),if_neg (by omega)]
 by_cases g3:b0 < 224
 ·have u:=u1 1 (b0 - 192) g1 (by unfold lead;rw [if_pos (by omega)])
  rw [c1 0,t1] at u
  by_cases k1:i+1 < l.length∧b1 / 64=2
  ·rw [decide_eq_true k1,if_pos rfl] at u
   simp only [cont] at u
   rw [Lib.decodeN,if_neg g1,if_pos (by omega)] at hd
   by_cases k2:b0 % 32*64+b1 % 64 ≥ 128
   ·rw [if_pos k2] at hd
    obtain ⟨rfl,rfl⟩:=Prod.mk.inj hd
    rw [fine_true (by omega),Bool.true_and] at u
    exact ⟨by omega,by omega,by omega,Or.inr ⟨by omega,u⟩⟩
   ·rw [if_neg k2] at hd
    rw [fine_false (by omega),Bool.false_and] at u
    exact bad _ hd u (by omega)
  ·rw [decide_eq_false k1,if_neg (by decide)] at u
   rw [Lib.decodeN,if_neg g1,if_neg (by omega),if_neg (by omega),if_neg (by omega)] at hd
   exact bad _ hd u (by omega)
 by_cases g4:b0 < 240
 ·have u:=u1 2 (b0 - 224) g1 (by unfold lead;rw [if_neg (by omega),if_pos (by omega)])
  rw [c1 1,t1] at u
  by_cases k1:i+1 < l.length∧b1 / 64=2
  ·rw [decide_eq_true k1,if_pos rfl,c2 0,t2] at u
   by_cases k2:i+2 < l.length∧b2 / 64=2
   ·rw [decide_eq_true k2,if_pos rfl] at u
    simp only [cont] at u
    rw [Lib.decodeN,if_neg g1,if_neg (by omega),if_pos (by omega)] at hd
    by_cases k3:b0 % 16*4096+b1 % 64*64+b2 % 64 ≥ 2048∧(b0 % 16*4096+b1 % 64*64+b2 % 64 < 55296∨(57344≤b0 % 16*4096+b1 % 64*64+b2 % 64∧b0 % 16*4096+b1 % 64*64+b2 % 64≤1114111))
    ·rw [if_pos k3] at hd
     obtain ⟨rfl,rfl⟩:=Prod.mk.inj hd
     rw [fine_true (by omega),Bool.true_and] at u
     exact ⟨by omega,by omega,by omega,Or.inr ⟨by omega,u⟩⟩
    ·rw [if_neg k3] at hd
     rw [fine_false (by omega),Bool.false_and] at u
     exact bad _ hd u (by omega)
   ·rw [decide_eq_false k2,if_neg (by decide)] at u
    rw [Lib.decodeN,if_neg g1,if_neg (by omega),if_neg (by omega),if_neg (by omega)] at hd
    exact bad _ hd u (by omega)
  ·rw [decide_eq_false k1,if_neg (by decide)] at u
   rw [Lib.decodeN,if_neg g1,if_neg (by omega),if_neg (by omega),if_neg (by omega)] at hd
   exact bad _ hd u (by omega)
 by_cases g5:b0 < 248
 ·have u:=u1 3 (b0 - 240) g1 (by unfold lead;rw [if_neg (by omega),if_neg (by omega),if_pos (by omega)])
  rw [c1 2,t1] at u
  by_cases k1:i+1 < l.length∧b1 / 64=2
  ·rw [decide_eq_true k1,if_pos rfl,c2 1,t2] at u
   by_cases k2:i+2 < l.length∧b2 / 64=2
   ·rw [decide_eq_true k2,if_pos rfl,c3 0,t3] at u
    by_cases k3:i+3 < l.length∧b3 / 64=2
    ·rw [decide_eq_true k3,if_pos rfl] at u
     simp only [cont] at u
     rw [Lib.decodeN,if_neg g1,if_neg (by omega),if_neg (by omega),if_pos (by omega)] at hd
     by_cases k4:b0 % 8*262144+b1 % 64*4096+b2 % 64*64+b3 % 64 ≥ 65536∧(b0 % 8*262144+b1 % 64*4096+b2 % 64*64+b3 % 64 < 55296∨(57344≤b0 % 8*262144+b1 % 64*4096+b2 % 64*64+b3 % 64∧b0 % 8*262144+b1 % 64*4096+b2 % 64*64+b3 % 64≤1114111))
     ·rw [if_pos k4] at hd
      obtain ⟨rfl,rfl⟩:=Prod.mk.inj hd
      rw [fine_true (by omega),Bool.true_and] at u
      exact ⟨by omega,by omega,by omega,Or.inr ⟨by omega,u⟩⟩
     ·rw [if_neg k4] at hd
      rw [fine_false (by omega),Bool.false_and] at u
      exact bad _ hd u (by omega)
    ·rw [decide_eq_false k3,if_neg (by decide)] at u
     rw [Lib.decodeN,if_neg g1,if_neg (by omega),if_neg (by omega),if_neg (by omega)] at hd
     exact bad _ hd u (by omega)
   ·rw [decide_eq_false k2,if_neg (by decide)] at u
    rw [Lib.decodeN,if_neg g1,if_neg (by omega),if_neg (by omega),if_neg (by omega)] at hd
    exact bad _ hd u (by omega)
  ·rw [decide_eq_false k1,if_neg (by decide)] at u
   rw [Lib.decodeN,if_neg g1,if_neg (by omega),if_neg (by omega),if_neg (by omega)] at hd
   exact bad _ hd u (by omega)
 ·rw [Lib.decodeN,if_neg g1,if_neg (by omega),if_neg (by omega),if_neg (by omega)] at hd
  refine bad _ hd (u2 g1 ?_) (by omega)
  unfold lead
  rw [if_neg (by omega),if_neg (by omega),if_neg (by omega)]
theorem pre_three (l:List UInt8) (i:Nat) (_h:i < l.length):preB (l.drop i) [239,191,189]=decide (3≤l.length - i∧(l.getD i 0).toNat=239∧(l.getD (i+1) 0).toNat=191∧(l.getD (i+2) 0).toNat=189):=by
 unfold preB
 rw [List.length_drop]
 show (decide (3≤l.length - i) && ((l.drop i).take 3 == [239,191,189]))=_
 by_cases h3:3≤l.length - i
 ·have g0:i < l.length:=by omega
  have g1:i+1 < l.length:=by omega
  have g2:i+1+1 < l.length:=by omega
  rw [List.drop_eq_getElem_cons g0,List.drop_eq_getElem_cons g1,List.drop_eq_getElem_cons g2,get_at l i g0,get_at l (i+1) g1,get_at l (i+2) g2]
  simp only [List.take_succ_cons,List.take_zero]
  rw [Bool.eq_iff_iff]
  simp only [Bool.and_eq_true,decide_eq_true_eq,beq_iff_eq,List.cons.injEq,and_true]
  have n1:∀ (x y:UInt8),x=y ↔ x.toNat=y.toNat:=fun x y=>⟨fun e=>by rw [e],fun e=>UInt8.toNat_inj.1 e⟩
  rw [n1 l[i] 239,n1 l[i+1] 191,n1 l[i+1+1] 189]
  exact Iff.rfl
 ·rw [decide_eq_false h3,decide_eq_false (by omega)]
  rfl
end Go.Proofs.YtlgkfeeclgcgbaaGreatDoor.La
/- TEXTS THAT GROW; Help and Unhelp, the document's. Own work of the verifier. -/
namespace Go.Proofs.YtlgkfeeclgcgbaaGreatDoor.La
open Go.RowKit
theorem bel1 (w:World) (o1:Obj):Below w.heap.size w (w.alloc o1):=(Below.refl _ _).alloc (Nat.le_refl _) _
end Go.Proofs.YtlgkfeeclgcgbaaGreatDoor.La
/- escaped, Help, Unhelp, the document's. Own work of the verifier. -/
namespace Go.Proofs.YtlgkfeeclgcgbaaGreatDoor.La
open Go.RowKit
theorem cell_two_new (w:World) (x y:Value) (t:TypeId):∀ j u,[x,y][j]? =some u→(w.alloc (.cells #[x,y] t)).cell? ((⟨w.heap.size,0,none⟩:Addr).add j)=some u:=by
 intro j u hj
 match j,hj with
 | 0,hj=>simp at hj;subst hj;simp [go_sem]
 | 1,hj=>simp at hj;subst hj;simp [go_sem]
 | k+2,hj=>simp at hj
def esc1 (q:Bool) (b:UInt8):List UInt8:=if b.toNat=92∨q=true∧b.toNat=34 then [92,b] else if b.toNat=10 then [92,110] else [b]
def escL (q:Bool):List UInt8→List UInt8
 | []=>[]
 | b::r=>esc1 q b++escL q r
end Go.Proofs.YtlgkfeeclgcgbaaGreatDoor.La
/- LISTS OF LABELS in memory; SameLabels, the document's. Own work of the verifier. -/
namespace Go.Proofs.YtlgkfeeclgcgbaaGreatDoor.La
open Go.RowKit
abbrev Lb:Type:=List UInt8 × List UInt8
theorem lt_of_cell {w:World} {a:Addr} {v:Value} (h:w.cell? a=some v):a.block < w.heap.size:=by
 unfold World.cell? at h
 split at h
 ·rename_i h1
  rcases Nat.lt_or_ge a.block w.heap.size with k | k
  ·exact k
  ·rw [Array.getElem?_eq_none k] at h1;cases h1
 ·cases h
def RowL (W:World) (b o:Nat) (L:List Lb):Prop:=∀ i (h:i < L.length),W.cell? ⟨b,o+i*2,none⟩=some (.string ⟨L[i].1.toArray⟩)∧W.cell? ⟨b,o+i*2+1,none⟩=some (.string ⟨L[i].2.toArray⟩)
theorem RowL.below {W W1:World} {b o:Nat} {L:List Lb} (h:RowL W b o L) (hb:Below W.heap.size W W1):RowL W1 b o L:=fun i hi=>by
 obtain ⟨h1,h2⟩:=h i hi
 rw [hb.cell (p:=⟨b,o+i*2,none⟩) (lt_of_cell h1),hb.cell (p:=⟨b,o+i*2+1,none⟩) (lt_of_cell h2)]
 exact ⟨h1,h2⟩
theorem below_drewN (w:World) (n:Nat):Below w.heap.size w (w.drewN n):=by
 induction n with
 | zero=>exact Below.refl _ _
 | succ n ih=>exact ⟨ih.os,ih.tape,ih.output,ih.size,ih.block⟩
theorem RowL.drew {W:World} {b o:Nat} {L:List Lb} (h:RowL W b o L) (n:Nat):RowL (W.drewN n) b o L:=h.below (below_drewN W n)
theorem retI {k:IntKind} {A B:Int} (h:A=B):Ending.returned (Value.int k A)=.returned (.int k B):=by rw [h]
end Go.Proofs.YtlgkfeeclgcgbaaGreatDoor.La
/- Same, Compare, the document's. Own work of the verifier. -/
namespace Go.Proofs.YtlgkfeeclgcgbaaGreatDoor.La
open Go.RowKit
structure Ds where
 kind:Int
 name:List UInt8
 help:List UInt8
 labels:List Lb
 deriving DecidableEq
theorem bel2 (w:World) (o1 o2:Obj):Below w.heap.size w ((w.alloc o1).alloc o2) :=
 ((Below.refl _ _).alloc (Nat.le_refl _) _).alloc (by simp) _
def ordL:List Lb→List Lb→Int
 | [],[]=>0
 | [],_::_=>-1
 | _::_,[]=>1
 | a::A,b::B=>if ordE a.1 b.1≠0 then ordE a.1 b.1 else if ordE a.2 b.2≠0 then ordE a.2 b.2 else ordL A B
def ordD (d e:Ds):Int:=if ordE d.name e.name≠0 then ordE d.name e.name else ordL d.labels e.labels
end Go.Proofs.YtlgkfeeclgcgbaaGreatDoor.La
/- Check, the document's. Own work of the verifier. -/
namespace Go.Proofs.YtlgkfeeclgcgbaaGreatDoor.La
open Go.RowKit
def chkL:List Lb→Option (List UInt8)→Int
 | [],_=>0
 | a::r,p=>if lnameB a.1=false then 9 else if txE a.2≠0 then txE a.2 else
  match p with
  | none=>chkL r (some a.1)
  | some q=>if bhE q a.1≠0 then bhE q a.1 else chkL r (some a.1)
def chkD (d:Ds):Int:=if d.kind < 1∨3 < d.kind then 7 else if nameB d.name=false then 9 else if txE d.help≠0 then txE d.help else if 16 < d.labels.length then 3 else chkL d.labels none
def prv (A:List Lb) (i:Nat):Option (List UInt8):=if i=0 then none else (A[i - 1]?).map (·.1)
theorem prv_succ (A:List Lb) (i:Nat) (h:i < A.length):prv A (i+1)=some A[i].1:=by
 unfold prv
 rw [if_neg (by omega),Nat.add_sub_cancel,List.getElem?_eq_getElem h]
 rfl
theorem chkL_drop (A:List Lb) (i:Nat) (p:Option (List UInt8)) (h:i < A.length):chkL (A.drop i) p=if lnameB A[i].1=false then 9 else if txE A[i].2≠0 then txE A[i].2 else
  match p with
  | none=>chkL (A.drop (i+1)) (some A[i].1)
  | some q=>if bhE q A[i].1≠0 then bhE q A[i].1 else chkL (A.drop (i+1)) (some A[i].1):=by
 rw [List.drop_eq_getElem_cons h]
 cases p <;> simp only [chkL]
def DsS (d:Ds):Prop:=d.name.length≤4611686018427387904∧d.help.length≤4611686018427387904∧∀ a ∈ d.labels,a.1.length≤4611686018427387904∧a.2.length≤4611686018427387904
theorem bel_drewN {B:Nat} {a w:World} (h:Below B a w) (n:Nat):Below B a (w.drewN n):=by
 induction n with
 | zero=>exact h
 | succ n ih=>exact ⟨ih.os,ih.tape,ih.output,ih.size,ih.block⟩
structure KH (w:World) (ao:Option Addr) (b o cap:Nat) (A:List Lb) (W:World):Prop where
 f:W.cell? ⟨w.heap.size,3,none⟩=some (.slice ao A.length cap)
 r:RowL W b o A
 bl:Below w.heap.size w W
theorem KH.below {w W W1:World} {ao:Option Addr} {b o cap:Nat} {A:List Lb} (h:KH w ao b o cap A W) (hb:Below W.heap.size W W1):KH w ao b o cap A W1 :=
 ⟨by rw [hb.cell (p:=⟨w.heap.size,3,none⟩) (lt_of_cell h.f)];exact h.f,h.r.below hb,h.bl.trans (hb.mono h.bl.size)⟩
theorem bel_drew {B:Nat} {a w:World} (h:Below B a w):Below B a w.drew:=⟨h.os,h.tape,h.output,h.size,h.block⟩
theorem sizeL (W:World):(sizeOf 152).run Tryz.prog W=.ok 2 W:=by simp [sizeOf];rfl
theorem index_lab (b o len cap j:Nat) (z:Int) (hz:z=(j:Int)) (hj:j < len) (W:World) :
  (Instr.indexAt 58 (.slice (some ⟨b,o,none⟩) len cap) (.int .i64 z)).run Tryz.prog W=.ok (.pointer (some ⟨b,o+j*2,none⟩)) W:=by
 subst hz
 have he:Tryz.prog.elem 58=152:=by simp [Program.elem,Tryz.underlying58]
 rw [run_indexAt_slice W 58 ⟨b,o,none⟩ len cap .i64 (j:Int) (by rw [he];exact Tryz.underlying58),if_pos (by omega),he,sizeL]
 simp [Addr.add]
end Go.Proofs.YtlgkfeeclgcgbaaGreatDoor.La
