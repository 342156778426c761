/- THE CODE'S escaped, unescape, Unhelp. Own work of the verifier. -/
import Derived.Test.YtlgkfeeclgcgbaaGreatDoorZAP
import Derived.Laws.ResultCell
set_option maxRecDepth 100000
set_option maxHeartbeats 4000000
namespace Go.Proofs.YtlgkfeeclgcgbaaGreatDoor.La
open Go.RowKit
def escP (q:Bool):List UInt8→Option UInt8
 | []=>none
 | b::_=>if b.toNat=110 then some 10 else if b.toNat=92∨q=true∧b.toNat=34 then some b else none
def TellsP (q:Bool) (l:List UInt8) (e:Ending):Prop:=(∃ b:UInt8,escP q l=some b∧e=.returned (.tuple #[.int .u8 (b.toNat:Int),.bool true]))∨(∃ z:Int,escP q l=none∧e=.returned (.tuple #[.int .u8 z,.bool false]))
theorem escp_any (q:Bool) (l:List UInt8) (w:World) :
  Calls Tryz.prog 250 #[.string ⟨l.toArray⟩,.string ⟨(spc q).toArray⟩] w fun r w'=>TellsP q l r∧∃ n,w'=w.drewN n:=by
 have HX:Hid (∀ (b:UInt8) (W:World),Calls Tryz.prog 124 #[.string ⟨(spc q).toArray⟩,.int .u8 (b.toNat:Int)] W fun e w'=>e=.returned (.int .i64 (Lib.indexByte (spc q) b))∧w'=W):=fun b W=>idx_any q b W
 have HQ:Hid (∀ b:UInt8,(0:Int)≤Lib.indexByte (spc q) b ↔ (b.toNat=92∨q=true∧b.toNat=34)):=fun b=>idx_spc q b
 generalize spc q=sp at *
 cases l with
 | nil =>
  have HF:Hid (TellsP q [] (.returned (.tuple #[.int .u8 0,.bool false]))):=Or.inr ⟨0,rfl,rfl⟩
  clear HX HQ
  as_aux_lemma =>
   go_enter Tryz.func250,Tryz.ntmps250
   go_wp2_with fail
   go_ret2
   exact ⟨HF.out,0,rfl⟩
 | cons b r =>
  have hne:((b::r) == [])=false:=rfl
  have hBy:0 < (ByteArray.mk (b::r).toArray).size:=by show 0 < (b::r).toArray.size;simp
  have hbe:(ByteArray.mk (b::r).toArray)[0]'hBy=b:=rfl
  have HX1:Hid _:=HX.out ((ByteArray.mk (b::r).toArray)[0]'hBy)
  have hq:=HQ.out ((ByteArray.mk (b::r).toArray)[0]'hBy)
  rw [hbe] at hq
  have hE:escP q (b::r)=if b.toNat=110 then some 10 else if b.toNat=92∨q=true∧b.toNat=34 then some b else none:=rfl
  have hlen:(b::r).length=r.length+1:=rfl
  obtain ⟨l,hl⟩:∃ l,l=b::r:=⟨_,rfl⟩
  have h0:(0:Int) < (l.length:Int):=by rw [hl,hlen];omega
  rw [← hl] at hE
  by_cases g1:b.toNat=110
  ·have t1:((b.toNat:Int) == 110)=true:=by rw [beq_iff_eq];omega
   have HF:Hid (TellsP q (b::r) (.returned (.tuple #[.int .u8 10,.bool true]))):=Or.inl ⟨10,by rw [← hl,hE,if_pos g1],rfl⟩
   subst hl
   clear HX HQ HX1 hq hE g1
   as_aux_lemma =>
    go_enter Tryz.func250,Tryz.ntmps250
    go_wp2_with fail
    go_ret2
    exact ⟨HF.out,0,rfl⟩
  ·have t1:((b.toNat:Int) == 110)=false:=by rw [beq_eq_false_iff_ne];omega
   rw [if_neg g1] at hE
   by_cases g2:b.toNat=92∨q=true∧b.toNat=34
   ·have t2:=hq.2 g2
    have HF:Hid (TellsP q (b::r) (.returned (.tuple #[.int .u8 (b.toNat:Int),.bool true]))):=Or.inl ⟨b,by rw [← hl,hE,if_pos g2],rfl⟩
    rw [hbe] at HX1
    subst hl
    generalize Lib.indexByte sp b=z at *
    clear HX HQ hq hE g1 g2
    as_aux_lemma =>
     go_enter Tryz.func250,Tryz.ntmps250
     go_wp2_with fail
     go_quiet (first | (go_at_call 124;exact Calls.quiet_of_same (HX1.out _)))
     go_wp2_with fail
     go_ret2
     exact ⟨HF.out,_,rfl⟩
   ·have t2:¬ (0:Int)≤Lib.indexByte sp b:=fun h=>g2 (hq.1 h)
    have HF:Hid (TellsP q (b::r) (.returned (.tuple #[.int .u8 (b.toNat:Int),.bool (decide ((0:Int)≤Lib.indexByte sp b))]))):=by rw [decide_eq_false t2];exact Or.inr ⟨_,by rw [← hl,hE,if_neg g2],rfl⟩
    rw [hbe] at HX1
    subst hl
    generalize Lib.indexByte sp b=z at *
    clear HX HQ hq hE g1 g2
    as_aux_lemma =>
     go_enter Tryz.func250,Tryz.ntmps250
     go_wp2_with fail
     go_quiet (first | (go_at_call 124;exact Calls.quiet_of_same (HX1.out _)))
     go_wp2_with fail
     go_ret2
     exact ⟨HF.out,_,rfl⟩
def unE (q:Bool):List UInt8→Nat→Except Nat (List UInt8 × Nat)
 | [],p=>.ok ([],p)
 | b::r,p=>if b.toNat=10 then .error p else if b.toNat=92 then
   match r with
   | []=>.error p
   | c::r'=>if c.toNat=110 then (unE q r' (p+2)).map fun t=>(10::t.1,t.2) else if c.toNat=92∨q=true∧c.toNat=34 then (unE q r' (p+2)).map fun t=>(c::t.1,t.2) else .error p
  else if q=true∧b.toNat=34 then .ok ([],p) else (unE q r (p+1)).map fun t=>(b::t.1,t.2)
theorem ue_end (q:Bool) (l:List UInt8) (i:Nat) (h:¬ i < l.length):unE q (l.drop i) i=.ok ([],i):=by
 rw [List.drop_eq_nil_of_le (by omega),unE]
theorem ue_ten (q:Bool) (l:List UInt8) (i:Nat) (h:i < l.length) (h1:l[i].toNat=10):unE q (l.drop i) i=.error i:=by
 rw [List.drop_eq_getElem_cons h,unE.eq_def]
 simp only
 rw [if_pos h1]
theorem ue_quote (q:Bool) (l:List UInt8) (i:Nat) (h:i < l.length) (h1:q=true∧l[i].toNat=34):unE q (l.drop i) i=.ok ([],i):=by
 rw [List.drop_eq_getElem_cons h,unE.eq_def]
 simp only
 rw [if_neg (by omega),if_neg (by omega),if_pos h1]
theorem ue_low (q:Bool) (l:List UInt8) (i:Nat) (h:i < l.length) (h0:l[i].toNat≠10) (h1:l[i].toNat≠92) (h2:¬ (q=true∧l[i].toNat=34)):unE q (l.drop i) i=(unE q (l.drop (i+1)) (i+1)).map fun t=>(l[i]::t.1,t.2):=by
 rw [List.drop_eq_getElem_cons h,unE.eq_def]
 simp only
 rw [if_neg h0,if_neg h1,if_neg h2]
theorem ue_back (q:Bool) (l:List UInt8) (i:Nat) (h:i < l.length) (h1:l[i].toNat=92):unE q (l.drop i) i=match escP q (l.drop (i+1)) with
  | none=>.error i
  | some c=>(unE q (l.drop (i+2)) (i+2)).map fun t=>(c::t.1,t.2):=by
 rw [List.drop_eq_getElem_cons h,unE.eq_def]
 simp only
 rw [if_neg (by omega),if_pos h1]
 by_cases k:i+1 < l.length
 ·rw [List.drop_eq_getElem_cons k]
  simp only [escP]
  by_cases e1:l[i+1].toNat=110
  ·simp only [e1,if_true]
  ·simp only [e1,if_false]
   by_cases e2:l[i+1].toNat=92∨q=true∧l[i+1].toNat=34
   ·simp only [e2,if_true]
   ·simp only [e2,if_false]
 ·rw [List.drop_eq_nil_of_le (by omega)]
  rfl
def UeI (q:Bool) (l:List UInt8) (i:Nat) (acc:List UInt8):Prop:=unE q l 0=(unE q (l.drop i) i).map fun t=>(acc++t.1,t.2)
theorem UeI.step {q:Bool} {l:List UInt8} {i j:Nat} {acc:List UInt8} {b:UInt8} (h:UeI q l i acc) (hd:unE q (l.drop i) i=(unE q (l.drop j) j).map fun t=>(b::t.1,t.2)):UeI q l j (acc++[b]):=by
 unfold UeI at *
 rw [h,hd]
 cases unE q (l.drop j) j with
 | error e=>rfl
 | ok t=>simp [Except.map]
def TellsE (q:Bool) (l:List UInt8) (e:Ending):Prop:=(∃ p:Nat,unE q l 0=.error p∧e=.returned (.tuple #[.string ⟨#[]⟩,.int .i64 (p:Int),.bool false]))∨(∃ (t:List UInt8) (p:Nat),unE q l 0=.ok (t,p)∧e=.returned (.tuple #[.string ⟨t.toArray⟩,.int .i64 (p:Int),.bool true]))
theorem UeI.bad {q:Bool} {l:List UInt8} {i:Nat} {acc:List UInt8} (h:UeI q l i acc) (hd:unE q (l.drop i) i=.error i):TellsE q l (.returned (.tuple #[.string ⟨#[]⟩,.int .i64 (i:Int),.bool false])) :=
 Or.inl ⟨i,by rw [show unE q l 0=_ from h,hd];rfl,rfl⟩
theorem UeI.good {q:Bool} {l:List UInt8} {i:Nat} {acc:List UInt8} (h:UeI q l i acc) (hd:unE q (l.drop i) i=.ok ([],i)):TellsE q l (.returned (.tuple #[.string ⟨acc.toArray⟩,.int .i64 (i:Int),.bool true])) :=
 Or.inr ⟨acc,i,by rw [show unE q l 0=_ from h,hd];simp [Except.map],rfl⟩
theorem BS.drewN {B k:Nat} {w0 W:World} {l:List UInt8} (h:BS B k w0 l W) (n:Nat):BS B k w0 l (W.drewN n):=by
 induction n with
 | zero=>exact h
 | succ n ih=>exact ⟨ih.ib,⟨ih.bl.os,ih.bl.tape,ih.bl.output,ih.bl.size,ih.bl.block⟩,ih.ok,ih.sz⟩
theorem unesc_any (q:Bool) (l:List UInt8) (hl:l.length≤140737488355328) (w:World) :
  Calls Tryz.prog 244 #[.string ⟨l.toArray⟩,.string ⟨(spc q).toArray⟩] w fun r w'=>TellsE q l r∧Below w.heap.size w w':=by
 have HX:Hid (∀ (b:UInt8) (W:World),Calls Tryz.prog 124 #[.string ⟨(spc q).toArray⟩,.int .u8 (b.toNat:Int)] W fun e w'=>e=.returned (.int .i64 (Lib.indexByte (spc q) b))∧w'=W):=fun b W=>idx_any q b W
 have HQ:Hid (∀ b:UInt8,(0:Int)≤Lib.indexByte (spc q) b ↔ (b.toNat=92∨q=true∧b.toNat=34)):=fun b=>idx_spc q b
 have HP:Hid (∀ (m:List UInt8) (W:World),Calls Tryz.prog 250 #[.string ⟨m.toArray⟩,.string ⟨(spc q).toArray⟩] W fun r w'=>TellsP q m r∧∃ n,w'=W.drewN n):=fun m W=>escp_any q m W
 have HW:Hid (∀ (W:World) (acc:List UInt8) (b:UInt8),BS w.heap.size w.heap.size w acc W→acc.length+1≤140737488355328→Calls Tryz.prog 252 #[.pointer (some ⟨w.heap.size,0,none⟩),.int .u8 (b.toNat:Int)] W fun e w'=>e=.returned .nilIface∧BS w.heap.size w.heap.size w (acc++[b]) w'):=fun W acc b h1 h2=>wb_any b h1 h2
 have HS:Hid (∀ (W:World) (acc:List UInt8),BS w.heap.size w.heap.size w acc W→Calls Tryz.prog 251 #[.pointer (some ⟨w.heap.size,0,none⟩)] W fun e w'=>e=.returned (.string ⟨acc.toArray⟩)∧BS w.heap.size w.heap.size w acc w'):=fun W acc h=>bstr_any h
 have HB0:Hid (BS w.heap.size w.heap.size w [] (w.alloc (.cells #[.pointer none,.slice none 0 0] 352))):=BS.new w
 have HI0:Hid (UeI q l 0 []):=by
  show unE q l 0=_
  rw [List.drop_zero]
  cases unE q l 0 <;> rfl
 generalize spc q=sp at *
 go_enter Tryz.func244,Tryz.ntmps244
 go_wp2_with fail
 go_loopw [5] (fun a W=>∃ (i:Nat) (acc:List UInt8),i≤l.length∧acc.length≤i∧a=.int .i64 (i:Int)∧Hid (UeI q l i acc)∧Hid (BS w.heap.size w.heap.size w acc W)) (fun a _=>l.length - (intOf a).toNat)
 case atStart=>exact ⟨0,[],by omega,by simp,rfl,HI0,HB0⟩
 case round =>
  clear HI0 HB0
  obtain ⟨i,acc,hi,hac,rfl,HI,HB⟩:=hrel
  by_cases hlt:i < l.length
  ·have hlt':(i:Int) < (l.length:Int):=by omega
   have hBy:i < (ByteArray.mk l.toArray).size:=by show i < l.toArray.size;simpa using hlt
   have hbe:(ByteArray.mk l.toArray)[i]'hBy=l[i]:=rfl
   by_cases g1:l[i].toNat=10
   ·have t1:((((ByteArray.mk l.toArray)[i]'hBy).toNat:Int) == 10)=true:=by rw [beq_iff_eq,hbe];omega
    have HF:Hid _:=HI.out.bad (ue_ten q l i hlt g1)
    have hbl:=HB.out.bl
    clear HX HQ HP HW HS HI HB g1 hbe
    as_aux_lemma =>
     go_wp2_with fail
     go_ret3
     exact ⟨HF.out,hbl⟩
   ·have t1:((((ByteArray.mk l.toArray)[i]'hBy).toNat:Int) == 10)=false:=by rw [beq_eq_false_iff_ne,hbe];omega
    by_cases g2:l[i].toNat=92
    ·have t2:((((ByteArray.mk l.toArray)[i]'hBy).toNat:Int) == 92)=true:=by rw [beq_iff_eq,hbe];omega
     obtain ⟨j,hj⟩:∃ j,j=i+1:=⟨_,rfl⟩
     have hj1:(i:Int)+1=(j:Int):=by omega
     have hj2:(j:Int)≤(l.length:Int):=by omega
     have hdr:=drop_bytes l j
     have hu:=ue_back q l i hlt g2
     rw [← hj] at hu
     have HP1:Hid _:=HP.out (l.drop j)
     obtain ⟨m,hm⟩:∃ m,m=l.drop j:=⟨_,rfl⟩
     have hmn:¬ i+1 < l.length→m=[]:=fun k=>by rw [hm];exact List.drop_eq_nil_of_le (by omega)
     rw [← hm] at hu HP1 hdr
     clear hm HX HQ HP g1 g2 hbe hj
     cases he:escP q m with
     | none =>
      rw [he] at hu
      have HF:Hid _:=HI.out.bad hu
      have hbl:=HB.out.bl
      have HE:Hid _:=he
      clear hmn
      clear hu HW HS HI HB he
      as_aux_lemma =>
       go_wp2_with fail
       refine (HP1.out _).mono ?_
       rintro e w1 ⟨hT,n,rfl⟩
       rcases hT with ⟨b,hb,rfl⟩ | ⟨z,hb,rfl⟩
       ·rw [HE.out] at hb;cases hb
       clear HP1 hb
       go_wp2_with fail
       go_ret3
       exact ⟨HF.out,bel_drewN hbl n⟩
     | some c =>
      rw [he] at hu
      have HI2:Hid _:=HI.out.step hu
      have hle:i+2≤l.length:=by
       rcases Nat.lt_or_ge (i+1) l.length with k | k
       ·omega
       ·rw [hmn (by omega)] at he;cases he
      have HE:Hid _:=he
      clear hmn
      have HC:Hid (∀ n,Calls Tryz.prog 252 #[.pointer (some ⟨w.heap.size,0,none⟩),.int .u8 (c.toNat:Int)] (wr.drewN n) fun e w'=>e=.returned .nilIface∧BS w.heap.size w.heap.size w (acc++[c]) w'):=fun n=>HW.out _ acc c (HB.out.drewN n) (by omega)
      clear hu HW HS HI HB he
      as_aux_lemma =>
       go_wp2_with fail
       refine (HP1.out _).mono ?_
       rintro e w1 ⟨hT,n,rfl⟩
       rcases hT with ⟨b,hb,rfl⟩ | ⟨z,hb,rfl⟩
       ·rw [HE.out] at hb
        cases hb
        clear HP1 HE
        go_wp2_with fail
        refine (HC.out _).mono ?_
        rintro e w2 ⟨rfl,hb⟩
        have HBn:Hid _:=hb
        clear HC hb
        go_wp2_with fail
        exact ⟨⟨i+2,_,by omega,by simp;omega,by go_num,HI2,HBn⟩,by simp [intOf];omega⟩
       ·rw [HE.out] at hb;cases hb
    ·have t2:((((ByteArray.mk l.toArray)[i]'hBy).toNat:Int) == 92)=false:=by rw [beq_eq_false_iff_ne,hbe];omega
     have HX1:Hid _:=HX.out ((ByteArray.mk l.toArray)[i]'hBy)
     have hq:=HQ.out ((ByteArray.mk l.toArray)[i]'hBy)
     rw [hbe] at hq HX1
     by_cases g3:q=true∧l[i].toNat=34
     ·have t3:=hq.2 (Or.inr g3)
      have HF:Hid _:=HI.out.good (ue_quote q l i hlt g3)
      have HS1:HidC _ _ _ _ _:=HS.out wr acc HB.out
      generalize Lib.indexByte sp l[i]=z at *
      clear HX HQ HP HW HS HI HB hq hbe g1 g2 g3
      as_aux_lemma =>
       go_wp2_with (go_at_call 124;refine (HX1.out _).mono ?_;rintro e1 w1 ⟨rfl,rfl⟩)
       refine (HS1.out).mono ?_
       rintro e w2 ⟨rfl,hb⟩
       have hbl:=hb.bl
       clear hb HS1 HX1
       go_wp2_with fail
       go_ret3
       exact ⟨HF.out,hbl⟩
     ·have t3:¬ (0:Int)≤Lib.indexByte sp l[i]:=fun h=>(hq.1 h).elim g2 g3
      have HI2:Hid (UeI q l (i+1) (acc++[(ByteArray.mk l.toArray)[i]'hBy])):=HI.out.step (ue_low q l i hlt g1 g2 g3)
      have HC:HidC Tryz.prog 252 #[.pointer (some ⟨w.heap.size,0,none⟩),.int .u8 ((((ByteArray.mk l.toArray)[i]'hBy).toNat:Nat):Int)] wr (fun e w'=>e=.returned .nilIface∧BS w.heap.size w.heap.size w (acc++[(ByteArray.mk l.toArray)[i]'hBy]) w'):=HW.out wr acc _ HB.out (by omega)
      rw [hbe] at HI2 HC
      generalize Lib.indexByte sp l[i]=z at *
      clear HX HQ HP HW HS HI HB hq hbe g1 g2 g3
      as_aux_lemma =>
       go_wp2_with (go_at_call 124;refine (HX1.out _).mono ?_;rintro e1 w1 ⟨rfl,rfl⟩)
       refine (HC.out).mono ?_
       rintro e w2 ⟨rfl,hb⟩
       have HBn:Hid _:=hb
       clear hb HC HX1
       go_wp2_with fail
       exact ⟨⟨i+1,_,by omega,by simp;omega,by go_num,HI2,HBn⟩,by simp [intOf];omega⟩
  ·have hlt':¬ (i:Int) < (l.length:Int):=by omega
   have HF:Hid _:=HI.out.good (ue_end q l i hlt)
   have HS1:HidC _ _ _ _ _:=HS.out wr acc HB.out
   clear HX HQ HP HW HS HI HB
   as_aux_lemma =>
    go_wp2_with fail
    refine (HS1.out).mono ?_
    rintro e w2 ⟨rfl,hb⟩
    have hbl:=hb.bl
    clear hb HS1
    go_wp2_with fail
    go_ret3
    exact ⟨HF.out,hbl⟩
end Go.Proofs.YtlgkfeeclgcgbaaGreatDoor.La
/- value, the document's. Own work of the verifier. -/
namespace Go.Proofs.YtlgkfeeclgcgbaaGreatDoor.La
open Go.RowKit
def valR:List UInt8→Nat→Except (Int × Nat) (List UInt8 × Nat)
 | [],p=>.error (5,p)
 | b::r,p=>if b.toNat=34 then .ok ([],p+1) else if b.toNat=10 then .error (5,p) else if b.toNat=92 then
   match r with
   | []=>.error (5,p)
   | c::r'=>if c.toNat=92∨c.toNat=34 then (valR r' (p+2)).map fun q=>(c::q.1,q.2) else if c.toNat=110 then (valR r' (p+2)).map fun q=>(10::q.1,q.2) else .error (5,p)
  else (valR r (p+1)).map fun q=>(b::q.1,q.2)
theorem val_end (l:List UInt8) (i:Nat) (h:¬ i < l.length):valR (l.drop i) i=.error (5,i):=by
 rw [List.drop_eq_nil_of_le (by omega),valR]
theorem val_low (l:List UInt8) (i:Nat) (h:i < l.length) (h0:l[i].toNat≠34) (h1:l[i].toNat≠10) (h2:l[i].toNat≠92):valR (l.drop i) i=(valR (l.drop (i+1)) (i+1)).map fun q=>(l[i]::q.1,q.2):=by
 rw [List.drop_eq_getElem_cons h,valR.eq_def]
 simp only
 rw [if_neg h0,if_neg h1,if_neg h2]
theorem val_quote (l:List UInt8) (i:Nat) (h:i < l.length) (h0:l[i].toNat=34):valR (l.drop i) i=.ok ([],i+1):=by
 rw [List.drop_eq_getElem_cons h,valR.eq_def]
 simp only
 rw [if_pos h0]
theorem val_ten (l:List UInt8) (i:Nat) (h:i < l.length) (h1:l[i].toNat=10):valR (l.drop i) i=.error (5,i):=by
 rw [List.drop_eq_getElem_cons h,valR.eq_def]
 simp only
 rw [if_neg (by omega),if_pos h1]
theorem val_last (l:List UInt8) (i:Nat) (h:i < l.length) (h1:l[i].toNat=92) (h2:¬ i+1 < l.length):valR (l.drop i) i=.error (5,i):=by
 rw [List.drop_eq_getElem_cons h,valR.eq_def]
 simp only
 rw [if_neg (by omega),if_neg (by omega),if_pos h1,List.drop_eq_nil_of_le (by omega)]
theorem val_two (l:List UInt8) (i:Nat) (h:i+1 < l.length) (h1:l[i].toNat=92):valR (l.drop i) i=if l[i+1].toNat=92∨l[i+1].toNat=34 then (valR (l.drop (i+2)) (i+2)).map fun q=>(l[i+1]::q.1,q.2) else if l[i+1].toNat=110 then (valR (l.drop (i+2)) (i+2)).map fun q=>(10::q.1,q.2) else .error (5,i):=by
 rw [List.drop_eq_getElem_cons (by omega:i < l.length),valR.eq_def]
 simp only
 rw [if_neg (by omega),if_neg (by omega),if_pos h1,List.drop_eq_getElem_cons h]
theorem two_set {w:World} {g:Nat} {u v x y:Value} (z0:w.cell? ⟨g,0,none⟩=some u) (z1:w.cell? ⟨g,1,none⟩=some v) :
  ((w.setCell ⟨g,0,none⟩ x).setCell ⟨g,1,none⟩ y).cell? ⟨g,0,none⟩=some x∧((w.setCell ⟨g,0,none⟩ x).setCell ⟨g,1,none⟩ y).cell? ⟨g,1,none⟩=some y:=by
 constructor
 ·rw [World.cell?_setCell_other _ ⟨g,1,none⟩ ⟨g,0,none⟩ _ (by intro h;cases h),World.cell?_setCell_same w _ _ z0]
 ·have k:(w.setCell ⟨g,0,none⟩ x).cell? ⟨g,1,none⟩=some v:=by
   rw [World.cell?_setCell_other _ ⟨g,0,none⟩ ⟨g,1,none⟩ _ (by intro h;cases h)]
   exact z1
  exact World.cell?_setCell_same _ _ _ k
end Go.Proofs.YtlgkfeeclgcgbaaGreatDoor.La
/- one, the document's. Own work of the verifier. -/
namespace Go.Proofs.YtlgkfeeclgcgbaaGreatDoor.La
open Go.RowKit
def nmAt (l:List UInt8) (p:Nat):List UInt8:=(l.drop p).take (rowN false (l.drop p))
def oneR (l:List UInt8) (p:Nat) (L:List Lb):Except (Int × Nat) (Lb × Nat) :=
 if L.length=16 then .error (3,p)
 else if lnameB (nmAt l p)=false then .error (9,p)
 else if L.length≠0∧bhE (L.getD (L.length - 1) ([],[])).1 (nmAt l p)≠0 then .error (bhE (L.getD (L.length - 1) ([],[])).1 (nmAt l p),p)
 else if (l.getD (p+rowN false (l.drop p)) 0).toNat≠61 then .error (5,p+rowN false (l.drop p))
 else if (l.getD (p+rowN false (l.drop p)+1) 0).toNat≠34 then .error (5,p+rowN false (l.drop p)+1)
 else match valR (l.drop (p+rowN false (l.drop p)+2)) (p+rowN false (l.drop p)+2) with
  | .error e=>.error e
  | .ok q=>if txE q.1≠0 then .error (txE q.1,p+rowN false (l.drop p)+2) else .ok ((nmAt l p,q.1),q.2)
theorem load_label (g:Nat) (x y:ByteArray) (w:World) (c0:w.cell? ⟨g,0,none⟩=some (.string x)) (c1:w.cell? ⟨g,1,none⟩=some (.string y)):(loadVar 152 ⟨g,0,none⟩).run Tryz.prog w=.ok (.agg #[.string x,.string y]) w:=by
 simp [loadVar,go_sem,c0,c1]
end Go.Proofs.YtlgkfeeclgcgbaaGreatDoor.La
/- THE READER: rest, take. Own work of the verifier. -/
set_option maxRecDepth 100000
set_option maxHeartbeats 1000000
namespace Go.Proofs.YtlgkfeeclgcgbaaGreatDoor.La
open Go.RowKit
structure Ex (g:Nat) (w W:World):Prop where
 os:W.os=w.os
 tape:W.tape=w.tape
 output:W.output=w.output
 size:w.heap.size≤W.heap.size
 block:∀ k,k < w.heap.size→k≠g→W.heap[k]? =w.heap[k]?
theorem Ex.refl (g:Nat) (w:World):Ex g w w:=⟨rfl,rfl,rfl,Nat.le_refl _,fun _ _ _=>rfl⟩
theorem Ex.of {g:Nat} {w W:World} (h:Below w.heap.size w W):Ex g w W:=⟨h.os,h.tape,h.output,h.size,fun k hk _=>h.block k hk⟩
theorem Ex.trans {g:Nat} {a b c:World} (h:Ex g a b) (k:Ex g b c):Ex g a c :=
 ⟨k.os.trans h.os,k.tape.trans h.tape,k.output.trans h.output,Nat.le_trans h.size k.size,fun i hi hg=>(k.block i (Nat.lt_of_lt_of_le hi h.size) hg).trans (h.block i hi hg)⟩
theorem Ex.set {g:Nat} {w W:World} (h:Ex g w W) (o:Nat) (u:Value):Ex g w (W.setCell ⟨g,o,none⟩ u) :=
 ⟨h.os,h.tape,h.output,by have:=h.size;simpa [World.setCell] using this,fun k hk hg=>by rw [Below.heap_setCell _ _ _ _ hg];exact h.block k hk hg⟩
theorem Ex.below {g:Nat} {w W:World} (h:Ex g w W) {B:Nat} (hB:B≤g) (hs:B≤w.heap.size):Below B w W :=
 ⟨h.os,h.tape,h.output,h.size,fun k hk=>h.block k (by omega) (by omega)⟩
theorem Ex.row {g:Nat} {w W:World} (h:Ex g w W) {b o:Nat} {A:List Lb} (hb:b≠g) (hr:RowL w b o A):RowL W b o A:=fun i hi=>by
 obtain ⟨h1,h2⟩:=hr i hi
 have hk:W.heap[b]? =w.heap[b]?:=h.block b (lt_of_cell h1) hb
 exact ⟨(World.cell?_of_block (w:=w) (w':=W) (a:=⟨b,o+i*2,none⟩) hk).trans h1,(World.cell?_of_block (w:=w) (w':=W) (a:=⟨b,o+i*2+1,none⟩) hk).trans h2⟩
def RdAt (W:World) (g:Nat) (l:List UInt8) (p:Nat):Prop:=W.heap[g]? =some (.cells #[.string ⟨l.toArray⟩,.int .i64 (p:Int)] 235)
theorem RdAt.lt {W:World} {g p:Nat} {l:List UInt8} (h:RdAt W g l p):g < W.heap.size:=(Array.getElem?_eq_some_iff.1 h).1
theorem RdAt.below {W W1:World} {g p:Nat} {l:List UInt8} (h:RdAt W g l p) (hb:Below W.heap.size W W1):RdAt W1 g l p:=(hb.block g h.lt).trans h
theorem RdAt.drewN {W:World} {g p:Nat} {l:List UInt8} (h:RdAt W g l p) (n:Nat):RdAt (W.drewN n) g l p:=h.below (below_drewN W n)
theorem RdAt.cells {W:World} {g p:Nat} {l:List UInt8} (h:RdAt W g l p):W.cell? ⟨g,0,none⟩=some (.string ⟨l.toArray⟩)∧W.cell? ⟨g,1,none⟩=some (.int .i64 (p:Int))∧W.frozen? ⟨g,1,none⟩=false:=by
 have h':W.heap[g]? =some (.cells #[.string ⟨l.toArray⟩,.int .i64 (p:Int)] 235):=h
 refine ⟨?_,?_,?_⟩ <;> simp [World.cell?,World.frozen?,h']
theorem RdAt.set {W:World} {g p:Nat} {l:List UInt8} (h:RdAt W g l p) (r:Nat):RdAt (W.setCell ⟨g,1,none⟩ (.int .i64 (r:Int))) g l r:=by
 have h':W.heap[g]? =some (.cells #[.string ⟨l.toArray⟩,.int .i64 (p:Int)] 235):=h
 unfold RdAt
 simp [World.setCell,Array.getElem?_modify,h']
theorem rest_any (g p:Nat) (l:List UInt8) (hp:p≤l.length) (w:World) (hr:RdAt w g l p) :
  Calls Tryz.prog 165 #[.pointer (some ⟨g,0,none⟩)] w fun r w'=>r=.returned (.string ⟨(l.drop p).toArray⟩)∧∃ n,w'=w.drewN n:=by
 obtain ⟨c0,c1,c2⟩:=hr.cells
 have hdr:=drop_bytes l p
 have hp':(p:Int)≤(l.length:Int):=by omega
 clear hr
 go_enter Tryz.func165,Tryz.ntmps165
 go_wp2_with fail
 go_quiet (fail)
 go_wp2_with fail
 go_ret
 exact ⟨rfl,_,rfl⟩
theorem take_any (g p:Nat) (l s:List UInt8) (hp:p≤l.length) (hl:l.length≤4611686018427387904) (w:World) (hr:RdAt w g l p) :
  Calls Tryz.prog 166 #[.pointer (some ⟨g,0,none⟩),.string ⟨s.toArray⟩] w fun r w'=>r=.returned (.bool (preB (l.drop p) s))∧Ex g w w'∧RdAt w' g l (if preB (l.drop p) s then p+s.length else p):=by
 have HR:HidC _ _ _ _ _:=rest_any g p l hp w hr
 have HP:Hid (∀ W,Calls Tryz.prog 110 #[.string ⟨(l.drop p).toArray⟩,.string ⟨s.toArray⟩] W fun r w'=>r=.returned (.bool (preB (l.drop p) s))∧w'=W):=fun W=>pre_any (l.drop p) s W
 have HRd:Hid (RdAt w g l p):=hr
 have hls:preB (l.drop p) s=true→p+s.length≤l.length:=fun h=>by
  unfold preB at h
  rw [Bool.and_eq_true,decide_eq_true_eq,List.length_drop] at h
  omega
 clear hr
 cases hb:preB (l.drop p) s
 ·rw [hb] at HP
  rw [if_neg (by decide)]
  clear hb hls
  as_aux_lemma =>
   go_enter Tryz.func166,Tryz.ntmps166
   go_wp2_with fail
   refine (HR.out).mono ?_
   rintro e w1 ⟨rfl,n,rfl⟩
   clear HR
   go_wp2_with (go_at_call 110;refine (HP.out _).mono ?_;rintro e1 w1 ⟨rfl,rfl⟩)
   go_ret
   exact ⟨rfl,Ex.of (below_drewN w n),RdAt.drewN HRd.out n⟩
 ·rw [hb] at HP
  rw [if_pos rfl]
  have hls':=hls hb
  obtain ⟨r,hrr⟩:∃ r,r=p+s.length:=⟨_,rfl⟩
  have hr1:(p:Int)+(s.length:Int)=(r:Int):=by omega
  rw [← hrr]
  have hr2:(r:Int)≤4611686018427387904:=by omega
  clear hb hls hrr
  as_aux_lemma =>
   go_enter Tryz.func166,Tryz.ntmps166
   go_wp2_with fail
   refine (HR.out).mono ?_
   rintro e w1 ⟨rfl,n,rfl⟩
   obtain ⟨c0,c1,c2⟩:=(RdAt.drewN HRd.out n).cells
   clear HR
   go_wp2_with (go_at_call 110;refine (HP.out _).mono ?_;rintro e1 w1 ⟨rfl,rfl⟩)
   go_ret
   exact ⟨rfl,(Ex.of (below_drewN w n)).set _ _,(RdAt.drewN HRd.out n).set r⟩
end Go.Proofs.YtlgkfeeclgcgbaaGreatDoor.La
/- THE READER: value. Own work of the verifier. -/
set_option maxRecDepth 100000
set_option maxHeartbeats 4000000
namespace Go.Proofs.YtlgkfeeclgcgbaaGreatDoor.La
open Go.RowKit
theorem ue_cases (q:Bool) (l:List UInt8):(∀ p,unE q l p=.error p)∨(∀ p,unE q l p=.ok ([],p))∨∃ (c:UInt8) (r:List UInt8) (d:Nat),r.length+d=l.length∧1≤d∧∀ p,unE q l p=(unE q r (p+d)).map fun t=>(c::t.1,t.2):=by
 cases l with
 | nil=>exact Or.inr (Or.inl fun p=>by rw [unE])
 | cons b r =>
  by_cases h1:b.toNat=10
  ·left;intro p;rw [unE.eq_def];simp only;rw [if_pos h1]
  by_cases h2:b.toNat=92
  ·cases r with
   | nil=>left;intro p;rw [unE.eq_def];simp only;rw [if_neg h1,if_pos h2]
   | cons c r' =>
    by_cases h3:c.toNat=110
    ·right;right
     exact ⟨10,r',2,rfl,by omega,fun p=>by rw [unE.eq_def];simp only;rw [if_neg h1,if_pos h2,if_pos h3]⟩
    by_cases h4:c.toNat=92∨q=true∧c.toNat=34
    ·right;right
     exact ⟨c,r',2,rfl,by omega,fun p=>by rw [unE.eq_def];simp only;rw [if_neg h1,if_pos h2,if_neg h3,if_pos h4]⟩
    ·left;intro p;rw [unE.eq_def];simp only;rw [if_neg h1,if_pos h2,if_neg h3,if_neg h4]
  by_cases h3:q=true∧b.toNat=34
  ·right;left;intro p;rw [unE.eq_def];simp only;rw [if_neg h1,if_neg h2,if_pos h3]
  ·right;right
   exact ⟨b,r,1,rfl,by omega,fun p=>by rw [unE.eq_def];simp only;rw [if_neg h1,if_neg h2,if_neg h3]⟩
theorem ue_all (q:Bool):∀ (n:Nat) (l:List UInt8),l.length=n→∀ p,(∃ k,p≤k∧k≤p+l.length∧∀ d,unE q l (p+d)=.error (k+d))∨(∃ t k,p≤k∧k≤p+l.length∧t.length≤l.length∧∀ d,unE q l (p+d)=.ok (t,k+d)):=by
 intro n
 induction n using Nat.strongRecOn with
 | ind n ih =>
  intro l hl p
  rcases ue_cases q l with h | h | ⟨c,r,d,h1,h2,h3⟩
  ·exact Or.inl ⟨p,Nat.le_refl _,by omega,fun d=>h _⟩
  ·exact Or.inr ⟨[],p,Nat.le_refl _,by omega,by simp,fun d=>h _⟩
  ·rcases ih r.length (by omega) r rfl (p+d) with ⟨k,a1,a2,a3⟩ | ⟨t,k,a1,a2,a3,a4⟩
   ·exact Or.inl ⟨k,by omega,by omega,fun e=>by rw [h3,show p+e+d=p+d+e from by omega,a3 e];rfl⟩
   ·exact Or.inr ⟨c::t,k,by omega,by omega,by rw [List.length_cons];omega,fun e=>by rw [h3,show p+e+d=p+d+e from by omega,a4 e];rfl⟩
theorem pre_one (l:List UInt8) (k:Nat) (c:UInt8):preB (l.drop k) [c]=decide (k < l.length∧(l.getD k 0).toNat=c.toNat):=by
 unfold preB
 by_cases h:k < l.length
 ·rw [List.drop_eq_getElem_cons h,get_at l k h]
  simp only [List.length_cons,List.length_nil,List.take_succ_cons,List.take_zero]
  rw [Bool.eq_iff_iff]
  simp only [Bool.and_eq_true,decide_eq_true_eq,beq_iff_eq,List.cons.injEq,and_true]
  constructor
  ·rintro ⟨_,e⟩;exact ⟨h,by rw [e]⟩
  ·rintro ⟨_,e⟩;exact ⟨by omega,UInt8.toNat_inj.1 e⟩
 ·have hn:¬ (k < l.length∧(l.getD k 0).toNat=c.toNat):=by omega
  have hd:l.drop k=[]:=List.drop_eq_nil_of_le (by omega)
  rw [hd,decide_eq_false hn]
  rfl
theorem val_un (l:List UInt8):∀ n i,l.length - i=n→i≤l.length→valR (l.drop i) i=match unE true (l.drop i) i with
  | .error k=>.error (5,k)
  | .ok (t,k)=>if preB (l.drop k) [34] then .ok (t,k+1) else .error (5,k):=by
 intro n
 induction n using Nat.strongRecOn with
 | ind n ih =>
  intro i hn hi
  by_cases h:i < l.length
  ·by_cases h34:l[i].toNat=34
   ·rw [val_quote l i h h34,ue_quote true l i h ⟨rfl,h34⟩]
    simp only
    rw [pre_one,decide_eq_true ⟨h,by rw [get_at l i h];exact h34⟩]
    rfl
   by_cases h10:l[i].toNat=10
   ·rw [val_ten l i h h10,ue_ten true l i h h10]
   by_cases h92:l[i].toNat=92
   ·rw [ue_back true l i h h92]
    by_cases k:i+1 < l.length
    ·have e1:=ih (l.length - (i+2)) (by omega) (i+2) rfl (by omega)
     rw [val_two l i k h92,List.drop_eq_getElem_cons k]
     simp only [escP]
     by_cases c110:l[i+1].toNat=110
     ·rw [if_neg (by omega),if_pos c110,if_pos c110]
      simp only
      rw [e1]
      cases unE true (l.drop (i+2)) (i+2) with
      | error e=>rfl
      | ok t =>
       obtain ⟨t,k⟩:=t
       by_cases hb:preB (l.drop k) [34]=true <;> simp [Except.map,hb]
     ·by_cases c2:l[i+1].toNat=92∨l[i+1].toNat=34
      ·have c2':l[i+1].toNat=92∨True∧l[i+1].toNat=34:=by simpa using c2
       rw [if_pos c2,if_neg c110,if_pos c2']
       simp only
       rw [e1]
       cases unE true (l.drop (i+2)) (i+2) with
       | error e=>rfl
       | ok t =>
        obtain ⟨t,k⟩:=t
        by_cases hb:preB (l.drop k) [34]=true <;> simp [Except.map,hb]
      ·have c2':¬ (l[i+1].toNat=92∨True∧l[i+1].toNat=34):=by simpa using c2
       rw [if_neg c2,if_neg c110,if_neg c110,if_neg c2']
    ·rw [val_last l i h h92 k,List.drop_eq_nil_of_le (by omega)]
     rfl
   ·have e1:=ih (l.length - (i+1)) (by omega) (i+1) rfl (by omega)
    rw [val_low l i h h34 h10 h92,ue_low true l i h h10 h92 (by simp [h34]),e1]
    cases unE true (l.drop (i+1)) (i+1) with
    | error e=>rfl
    | ok t =>
     obtain ⟨t,k⟩:=t
     by_cases hb:preB (l.drop k) [34]=true <;> simp [Except.map,hb]
  ·rw [val_end l i h,ue_end true l i h]
   simp only
   rw [pre_one,decide_eq_false (by omega)]
   rfl
def TellsW (l:List UInt8) (p:Nat) (e:Ending) (j:Nat):Prop :=
 (∃ k,valR (l.drop p) p=.error (5,k)∧j=k∧e=.returned (.tuple #[.string ⟨#[]⟩,.int .i64 5])) ∨
 (∃ t k,valR (l.drop p) p=.ok (t,k)∧(txE t≠0∧j=p∧e=.returned (.tuple #[.string ⟨#[]⟩,.int .i64 (txE t)])∨txE t=0∧j=k∧e=.returned (.tuple #[.string ⟨t.toArray⟩,.int .i64 0])))
theorem cvalue_any (g p:Nat) (l:List UInt8) (hp:p≤l.length) (hl:l.length≤140737488355328) (w:World) (hr:RdAt w g l p) :
  Calls Tryz.prog 213 #[.pointer (some ⟨g,0,none⟩)] w fun r w'=>∃ j,TellsW l p r j∧Ex g w w'∧RdAt w' g l j:=by
 obtain ⟨c0,c1,c2⟩:=hr.cells
 have HR:HidC _ _ _ _ _:=rest_any g p l hp w hr
 have hdl:(l.drop p).length=l.length - p:=List.length_drop
 have HU:Hid (∀ W,Calls Tryz.prog 244 #[.string ⟨(l.drop p).toArray⟩,.string ⟨#[92,34]⟩] W fun r w'=>TellsE true (l.drop p) r∧Below W.heap.size W w'):=fun W=>unesc_any true (l.drop p) (by omega) W
 have HRd:Hid (RdAt w g l p):=hr
 have HA:=ue_all true _ (l.drop p) rfl 0
 have HV:=val_un l _ p rfl hp
 have HT:Hid (∀ (j:Nat),j≤l.length→∀ W,RdAt W g l j→Calls Tryz.prog 166 #[.pointer (some ⟨g,0,none⟩),.string ⟨#[34]⟩] W fun r w'=>r=.returned (.bool (preB (l.drop j) [34]))∧Ex g W w'∧RdAt w' g l (if preB (l.drop j) [34] then j+1 else j)):=fun j hj W h=>take_any g j l [34] hj (by omega) W h
 have HC:Hid (∀ t:List UInt8,t.length≤l.length→∀ W,Calls Tryz.prog 63 #[.string ⟨t.toArray⟩] W fun r w'=>r=.returned (.int .i64 (txE t))∧Below W.heap.size W w'):=fun t ht W=>ctext_any t (by omega) W
 clear hr
 rcases HA with ⟨k,a1,a2,a3⟩ | ⟨t,k,a1,a2,a3,a4⟩
 ·have hu:unE true (l.drop p) 0=.error k:=a3 0
  have hv:valR (l.drop p) p=.error (5,k+p):=by
   rw [HV,show unE true (l.drop p) p=.error (k+p) from by have:=a3 p;rw [Nat.zero_add] at this;exact this]
  obtain ⟨j,hj⟩:∃ j,j=k+p:=⟨_,rfl⟩
  have hj1:(p:Int)+(k:Int)=(j:Int):=by omega
  have hj2:j≤l.length:=by omega
  rw [← hj] at hv
  have HVV:Hid _:=hv
  have HUU:Hid _:=hu
  have hj3:(j:Int)≤140737488355328:=by omega
  clear HV hv hu a1 a2 a3 hj hdl HT HC
  as_aux_lemma =>
   go_enter Tryz.func213,Tryz.ntmps213
   go_wp2_with fail
   refine (HR.out).mono ?_
   rintro e w1 ⟨rfl,n,rfl⟩
   clear HR c0 c1 c2
   go_wp2_with fail
   refine (HU.out _).mono ?_
   rintro e w2 ⟨hT,hb⟩
   have hb0:Below w.heap.size w w2:=(below_drewN w n).trans (hb.mono (below_drewN w n).size)
   have hr2:RdAt w2 g l p:=RdAt.below HRd.out hb0
   obtain ⟨c0,c1,c2⟩:=hr2.cells
   have HR2:Hid _:=hr2
   clear HU hb hr2
   rcases hT with ⟨p',hp',rfl⟩ | ⟨t,p',hp',rfl⟩
   ·have hpk:p'=k:=by rw [HUU.out] at hp';cases hp';rfl
    subst hpk
    clear hp' HUU
    go_wp2_with fail
    go_ret2
    exact ⟨j,Or.inl ⟨j,HVV.out,rfl,rfl⟩,(Ex.of hb0).set _ _,RdAt.set HR2.out j⟩
   ·rw [HUU.out] at hp';cases hp'
 ·have hu:unE true (l.drop p) 0=.ok (t,k):=a4 0
  have hv0:unE true (l.drop p) p=.ok (t,k+p):=by have:=a4 p;rw [Nat.zero_add] at this;exact this
  rw [hv0] at HV
  simp only at HV
  obtain ⟨j,hj⟩:∃ j,j=k+p:=⟨_,rfl⟩
  have hj1:(p:Int)+(k:Int)=(j:Int):=by omega
  have hj2:j≤l.length:=by omega
  rw [← hj] at HV
  have HUU:Hid _:=hu
  have hj3:(j:Int)≤140737488355328:=by omega
  have HT1:Hid _:=HT.out j hj2
  have HC1:Hid _:=HC.out t (by omega)
  have HVV:Hid _:=HV
  clear hv0 HV hu a1 a2 a3 a4 hj hdl HT HC
  generalize hbq:preB (l.drop j) [34]=bq at *
  cases bq
  ·have HV1:Hid (valR (l.drop p) p=.error (5,j)):=by have:=HVV.out;rw [if_neg (by decide)] at this;exact this
   clear HVV HC1 hbq
   as_aux_lemma =>
    go_enter Tryz.func213,Tryz.ntmps213
    go_wp2_with fail
    refine (HR.out).mono ?_
    rintro e w1 ⟨rfl,n,rfl⟩
    clear HR c0 c1 c2
    go_wp2_with fail
    refine (HU.out _).mono ?_
    rintro e w2 ⟨hT,hb⟩
    have hb0:Below w.heap.size w w2:=(below_drewN w n).trans (hb.mono (below_drewN w n).size)
    have hr2:RdAt w2 g l p:=RdAt.below HRd.out hb0
    obtain ⟨c0,c1,c2⟩:=hr2.cells
    have HT2:HidC _ _ _ _ _:=HT1.out _ (hr2.set j)
    have HX:Hid (Ex g w (w2.setCell ⟨g,1,none⟩ (.int .i64 (j:Int)))):=(Ex.of hb0).set _ _
    clear HU hb hr2 HT1 hb0
    rcases hT with ⟨p',hp',rfl⟩ | ⟨t',p',hp',rfl⟩
    ·rw [HUU.out] at hp';cases hp'
    ·have hpk:t'=t∧p'=k:=by rw [HUU.out] at hp';cases hp';exact ⟨rfl,rfl⟩
     obtain ⟨rfl,rfl⟩:=hpk
     clear hp' HUU
     go_wp2_with fail
     refine (HT2.out).mono ?_
     rintro e w3 ⟨rfl,hx,hr⟩
     have HX3:Hid _:=HX.out.trans hx
     have HR3:Hid _:=hr
     clear HT2 HX hx hr c0 c1 c2
     go_wp2_with fail
     go_ret2
     exact ⟨j,Or.inl ⟨j,HV1.out,rfl,rfl⟩,HX3.out,HR3.out⟩
  ·have HV1:Hid (valR (l.drop p) p=.ok (t,j+1)):=by have:=HVV.out;rw [if_pos rfl] at this;exact this
   clear HVV hbq
   generalize htz:txE t=tz at *
   have HTZ:Hid _:=htz
   clear htz
   by_cases e1:tz=0
   ·subst e1
    as_aux_lemma =>
     go_enter Tryz.func213,Tryz.ntmps213
     go_wp2_with fail
     refine (HR.out).mono ?_
     rintro e w1 ⟨rfl,n,rfl⟩
     clear HR c0 c1 c2
     go_wp2_with fail
     refine (HU.out _).mono ?_
     rintro e w2 ⟨hT,hb⟩
     have hb0:Below w.heap.size w w2:=(below_drewN w n).trans (hb.mono (below_drewN w n).size)
     have hr2:RdAt w2 g l p:=RdAt.below HRd.out hb0
     obtain ⟨c0,c1,c2⟩:=hr2.cells
     have HT2:HidC _ _ _ _ _:=HT1.out _ (hr2.set j)
     have HX:Hid (Ex g w (w2.setCell ⟨g,1,none⟩ (.int .i64 (j:Int)))):=(Ex.of hb0).set _ _
     clear HU hb hr2 HT1 hb0
     rcases hT with ⟨p',hp',rfl⟩ | ⟨t',p',hp',rfl⟩
     ·rw [HUU.out] at hp';cases hp'
     ·have hpk:t'=t∧p'=k:=by rw [HUU.out] at hp';cases hp';exact ⟨rfl,rfl⟩
      obtain ⟨rfl,rfl⟩:=hpk
      clear hp' HUU
      go_wp2_with fail
      refine (HT2.out).mono ?_
      rintro e w3 ⟨rfl,hx,hr⟩
      have HX3:Hid (Ex g w w3):=HX.out.trans hx
      have HR3:Hid (RdAt w3 g l (j+1)):=hr
      clear HT2 HX hx hr c0 c1 c2
      go_wp2_with fail
      refine (HC1.out _).mono ?_
      rintro e w4 ⟨rfl,hb4⟩
      have HX4:Hid (Ex g w w4):=HX3.out.trans (Ex.of hb4)
      have HR4:Hid (RdAt w4 g l (j+1)):=RdAt.below HR3.out hb4
      clear HX3 HR3 HC1 hb4
      go_wp2_with fail
      go_ret2
      exact ⟨j+1,Or.inr ⟨_,_,HV1.out,Or.inr ⟨HTZ.out,rfl,rfl⟩⟩,HX4.out,HR4.out⟩
   ·have e1':(tz != 0)=true:=by simpa using e1
    have HN:Hid (tz≠0):=e1
    clear e1
    as_aux_lemma =>
     go_enter Tryz.func213,Tryz.ntmps213
     go_wp2_with fail
     refine (HR.out).mono ?_
     rintro e w1 ⟨rfl,n,rfl⟩
     clear HR c0 c1 c2
     go_wp2_with fail
     refine (HU.out _).mono ?_
     rintro e w2 ⟨hT,hb⟩
     have hb0:Below w.heap.size w w2:=(below_drewN w n).trans (hb.mono (below_drewN w n).size)
     have hr2:RdAt w2 g l p:=RdAt.below HRd.out hb0
     obtain ⟨c0,c1,c2⟩:=hr2.cells
     have HT2:HidC _ _ _ _ _:=HT1.out _ (hr2.set j)
     have HX:Hid (Ex g w (w2.setCell ⟨g,1,none⟩ (.int .i64 (j:Int)))):=(Ex.of hb0).set _ _
     clear HU hb hr2 HT1 hb0
     rcases hT with ⟨p',hp',rfl⟩ | ⟨t',p',hp',rfl⟩
     ·rw [HUU.out] at hp';cases hp'
     ·have hpk:t'=t∧p'=k:=by rw [HUU.out] at hp';cases hp';exact ⟨rfl,rfl⟩
      obtain ⟨rfl,rfl⟩:=hpk
      clear hp' HUU
      go_wp2_with fail
      refine (HT2.out).mono ?_
      rintro e w3 ⟨rfl,hx,hr⟩
      have HX3:Hid (Ex g w w3):=HX.out.trans hx
      have HR3:Hid (RdAt w3 g l (j+1)):=hr
      clear HT2 HX hx hr c0 c1 c2
      go_wp2_with fail
      refine (HC1.out _).mono ?_
      rintro e w4 ⟨rfl,hb4⟩
      have HX4:Hid (Ex g w w4):=HX3.out.trans (Ex.of hb4)
      have HR4:Hid (RdAt w4 g l (j+1)):=RdAt.below HR3.out hb4
      obtain ⟨c0,c1,c2⟩:=RdAt.cells HR4.out
      clear HX3 HR3 HC1 hb4
      go_wp2_with fail
      go_ret2
      exact ⟨p,Or.inr ⟨_,_,HV1.out,Or.inl ⟨fun h=>HN.out (HTZ.out.symm.trans h),rfl,congrArg (fun z:Int=>Ending.returned (Value.tuple #[.string ⟨#[]⟩,.int .i64 z])) HTZ.out.symm⟩⟩,HX4.out.set _ _,RdAt.set HR4.out p⟩
end Go.Proofs.YtlgkfeeclgcgbaaGreatDoor.La
