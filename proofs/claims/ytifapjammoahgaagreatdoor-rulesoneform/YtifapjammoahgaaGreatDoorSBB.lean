/- THE CODE'S Print. Own work of the verifier. -/
import Derived.Test.YtifapjammoahgaaGreatDoorSBA
import Derived.Laws.ResultCell
set_option maxRecDepth 100000
set_option maxHeartbeats 4000000
namespace Go.Proofs.YtifapjammoahgaaGreatDoor.La
open Go.RowKit
theorem BS.re {B k:Nat} {w0 W:World} {l:List UInt8} (h:BS B k w0 l W):BS B k W l W:=⟨h.ib,Below.refl _ _,Lib.OthersKept.refl _ _ _,h.sz⟩
theorem BS.then {B k:Nat} {w0 W W1:World} {l l1:List UInt8} (h:BS B k w0 l W) (h1:BS B k W l1 W1):BS B k w0 l1 W1:=⟨h1.ib,h.bl.trans h1.bl,h.ok.trans h1.ok,h1.sz⟩
theorem BS.alloc {B k:Nat} {w0 W:World} {l:List UInt8} (h:BS B k w0 l W) (o:Obj):BS B k w0 l (W.alloc o):=⟨h.ib.alloc o,h.bl.alloc h.sz o,h.ok.alloc o,by have:=h.sz;simp;omega⟩
theorem BS.lt {B k:Nat} {w0 W:World} {l:List UInt8} (h:BS B k w0 l W):k < W.heap.size:=by
  rcases h.ib with g | g
  · exact g.lt
  · exact g.lt
theorem BS.cells {B k g:Nat} {W W1:World} {l:List UInt8} {cs:Array Value} {t:TypeId} (h:BS B k W l W1) (hg:W.heap[g]? =some (.cells cs t)) (hk:g≠k) (ht:t≠5):W1.heap[g]? =some (.cells cs t) :=
  h.ok g _ hg (fun e=>hk (Option.some.inj e)) (fun c fz e=>ht (by injection e))
structure KP (w:World) (b o:Nat) (A:List Lb) (acc:List UInt8) (W:World):Prop where
  r:RowL W b o A
  s:BS w.heap.size w.heap.size w acc W
theorem rowL_bel {w W W1:World} {b o:Nat} {A:List Lb} (h:RowL W b o A) (hw:RowL w b o A) (hb:Below w.heap.size W W1):RowL W1 b o A:=fun i hi=>by
  obtain ⟨h1,h2⟩:=h i hi
  obtain ⟨k1,k2⟩:=hw i hi
  exact ⟨(hb.cell (lt_of_cell k1)).trans h1,(hb.cell (lt_of_cell k2)).trans h2⟩
theorem one_cells {W:World} {g:Nat} {x y:Value} {t:TypeId} (h:W.heap[g]? =some (.cells #[x,y] t)):W.cell? ⟨g,0,none⟩=some x∧W.cell? ⟨g,1,none⟩=some y:=by
  constructor <;> simp [World.cell?,h]
theorem cprint_any (n:List UInt8) (ao:Option Addr) (b o cap:Nat) (A:List Lb) (hao:A≠[]→ao=some ⟨b,o,none⟩) (hl:A.length≤9223372036854775807) (hv:∀ a ∈ A,a.2.length≤9223372036854775807) (hT:(printT n A).length≤140737488355328) (w:World) (hR:RowL w b o A) :
    Calls Tryz.prog 41 #[.string ⟨n.toArray⟩,.slice ao A.length cap] w fun r w'=>r=.returned (.string ⟨(printT n A).toArray⟩)∧Below w.heap.size w w':=by
  have hP:printT n A=n++prB true A++(if A.length=0 then [] else [125]):=rfl
  obtain ⟨R,hR0⟩:∃ R,R=n++prB true A:=⟨_,rfl⟩
  rw [← hR0] at hP
  rw [hP] at hT
  obtain ⟨T,hTT⟩:∃ T,T=printT n A:=⟨_,rfl⟩
  rw [← hTT]
  have HTT:Hid (T=R++(if A.length=0 then [] else [125])):=by show T=_;rw [hTT,hP]
  clear hTT
  have hRl:R.length≤140737488355328:=by rw [List.length_append] at hT;omega
  have hRn:n.length≤R.length:=by rw [hR0,List.length_append];omega
  have HT:Hid ((R++(if A.length=0 then [] else [125])).length≤140737488355328):=hT
  have HR0:Hid (R=n++prB (decide (0=0)) (A.drop 0)):=hR0
  have HN:Hid (∀ W,BS w.heap.size w.heap.size w [] W→Calls Tryz.prog 25 #[.pointer (some ⟨w.heap.size,0,none⟩),.string ⟨n.toArray⟩] W fun e w'=>e=.returned (.tuple #[.int .i64 (n.length:Int),.nilIface])∧BS w.heap.size w.heap.size w n w'):=fun W h=>ws_any n h (by simp;omega)
  have HB0:Hid _:=BS.new w
  have HV:Hid _:=hv
  have HRw:Hid (RowL w b o A):=hR
  clear hR hP hR0 hv hT
  go_enter Tryz.func41,Tryz.ntmps41
  go_wp2_with fail
  refine (HN.out _ HB0.out).mono ?_
  rintro e w1 ⟨rfl,hb⟩
  clear HN HB0
  by_cases z:A.length=0
  · have z':((A.length:Int) == 0)=true:=by rw [beq_iff_eq];omega
    have HF:Hid (T=n):=by
      show T=n
      rw [HTT.out,if_pos z,HR0.out,List.drop_zero,List.length_eq_zero_iff.1 z,prB]
      simp
    have HS:HidC _ _ _ _ _:=bstr_any hb
    clear HTT HR0 HT HV HRw hb z
    as_aux_lemma =>
      go_wp2_with fail
      refine (HS.out).mono ?_
      rintro e w2 ⟨rfl,hb⟩
      have hbl:=hb.bl
      clear hb HS
      go_wp2_with fail
      go_ret
      exact ⟨congrArg (fun z:List UInt8=>Ending.returned (Value.string ⟨z.toArray⟩)) HF.out.symm,hbl⟩
  have z':((A.length:Int) == 0)=false:=by rw [beq_eq_false_iff_ne];omega
  have HK0:Hid (KP w b o A n w1):=⟨RowL.below HRw.out hb.bl,hb⟩
  obtain rfl:=hao (fun e=>z (by rw [e];rfl))
  have HTT2:Hid (T=R++[125]):=by show T=_;rw [HTT.out,if_neg z]
  have hT2:R.length+1≤140737488355328:=by have:=HT.out;rw [if_neg z,List.length_append] at this;exact this
  clear hb HTT HT z hao
  go_wp2_with fail
  go_loopw [6,17] (fun v a W=>∃ (i:Nat) (acc:List UInt8),i≤A.length∧a=.int .i64 (i:Int)∧v=.string ⟨#[if decide (i=0) then 123 else 44]⟩∧Hid (R=acc++prB (decide (i=0)) (A.drop i))∧Hid (KP w b o A acc W)) (fun _ a _=>A.length - (intOf a).toNat)
  case atStart=>exact ⟨0,n,by omega,rfl,rfl,HR0,HK0⟩
  case round =>
    clear HR0 HK0
    obtain ⟨i,acc,hi,rfl,rfl,HR,HK⟩:=hrel
    by_cases hlt:i < A.length
    · have hlt':(i:Int) < (A.length:Int):=by omega
      obtain ⟨q1,q2⟩:=HK.out.r i hlt
      have hS:=HR.out
      rw [prB_drop _ A i hlt] at hS
      have hlb:lbT A[i]=A[i].1++[61,34]++escL true A[i].2++[34]:=rfl
      rw [hlb] at hS
      obtain ⟨c,hc⟩:∃ c:UInt8,c=if decide (i=0) then 123 else 44:=⟨_,rfl⟩
      rw [← hc] at hS ⊢
      clear hc
      have hlen:=congrArg List.length hS
      simp only [List.length_append,List.length_cons,List.length_nil] at hlen
      have HF:Hid (R=acc++[c]++A[i].1++[61,34]++escL true A[i].2++[34]++prB (decide (i+1=0)) (A.drop (i+1))):=by
        show R=_
        rw [hS,decide_eq_false (by omega)]
        simp
      have m2:=HV.out A[i] (List.getElem_mem hlt)
      obtain ⟨W0,hW0⟩:∃ W0,W0=wr.alloc (.cells #[.string ⟨A[i].1.toArray⟩,.string ⟨A[i].2.toArray⟩] 74):=⟨_,rfl⟩
      have hsB:BS w.heap.size w.heap.size w acc W0:=by rw [hW0];exact HK.out.s.alloc _
      have hgt:wr.heap.size≠w.heap.size:=by have:=HK.out.s.lt;omega
      have hone:W0.heap[wr.heap.size]? =some (.cells #[.string ⟨A[i].1.toArray⟩,.string ⟨A[i].2.toArray⟩] 74):=by rw [hW0];show (wr.heap.push _)[wr.heap.size]? =_;simp
      have hrow:RowL W0 b o A:=by rw [hW0];exact HK.out.r.below (bel1 wr _)
      have C1:HidC Tryz.prog 25 #[.pointer (some ⟨w.heap.size,0,none⟩),.string ⟨#[c]⟩] W0 (fun e w'=>e=.returned (.tuple #[.int .i64 1,.nilIface])∧BS w.heap.size w.heap.size W0 (acc++[c]) w'):=ws_any [c] hsB.re (by simp;omega)
      have C2:Hid (∀ W,BS w.heap.size w.heap.size W0 (acc++[c]) W→Calls Tryz.prog 25 #[.pointer (some ⟨w.heap.size,0,none⟩),.string ⟨A[i].1.toArray⟩] W fun e w'=>e=.returned (.tuple #[.int .i64 (A[i].1.length:Int),.nilIface])∧BS w.heap.size w.heap.size W0 (acc++[c]++A[i].1) w'):=fun W h=>ws_any _ h (by simp;omega)
      have C3:Hid (∀ W,BS w.heap.size w.heap.size W0 (acc++[c]++A[i].1) W→Calls Tryz.prog 25 #[.pointer (some ⟨w.heap.size,0,none⟩),.string ⟨#[61,34]⟩] W fun e w'=>e=.returned (.tuple #[.int .i64 2,.nilIface])∧BS w.heap.size w.heap.size W0 (acc++[c]++A[i].1++[61,34]) w'):=fun W h=>ws_any [61,34] h (by simp;omega)
      have C4:Hid (∀ W,BS w.heap.size w.heap.size W0 (acc++[c]++A[i].1++[61,34]) W→Calls Tryz.prog 63 #[.pointer (some ⟨w.heap.size,0,none⟩),.string ⟨A[i].2.toArray⟩,.string ⟨#[92,34]⟩] W fun e w'=>e=.returned (.tuple #[])∧BS w.heap.size w.heap.size W0 (acc++[c]++A[i].1++[61,34]++escL true A[i].2) w'):=fun W h=>cesc_any true _ _ W0 _ A[i].2 (by simp;omega) m2 W h
      have C5:Hid (∀ W,BS w.heap.size w.heap.size W0 (acc++[c]++A[i].1++[61,34]++escL true A[i].2) W→Calls Tryz.prog 25 #[.pointer (some ⟨w.heap.size,0,none⟩),.string ⟨#[34]⟩] W fun e w'=>e=.returned (.tuple #[.int .i64 1,.nilIface])∧BS w.heap.size w.heap.size W0 (acc++[c]++A[i].1++[61,34]++escL true A[i].2++[34]) w'):=fun W h=>ws_any [34] h (by simp;omega)
      have HH:Hid (∀ W l,BS w.heap.size w.heap.size W0 l W→W.cell? ⟨wr.heap.size,0,none⟩=some (.string ⟨A[i].1.toArray⟩)∧W.cell? ⟨wr.heap.size,1,none⟩=some (.string ⟨A[i].2.toArray⟩)):=fun W l h=>one_cells (h.cells hone hgt (by decide))
      have HE:Hid (∀ W l,BS w.heap.size w.heap.size W0 l W→KP w b o A l W):=fun W l h=>⟨rowL_bel hrow HRw.out h.bl,hsB.then h⟩
      have HW0:Hid _:=hW0
      generalize escL true A[i].2=e2 at *
      generalize A[i].1=x1 at *
      generalize A[i].2=x2 at *
      clear HR HK HV HRw hS hlb hlen m2 hsB hgt hone hrow hW0
      as_aux_lemma =>
        go_wp2_with fail
        rw [← HW0.out]
        refine (C1.out).mono ?_
        rintro e w2 ⟨rfl,hb⟩
        have cc:=(HH.out w2 _ hb).1
        have D2:HidC _ _ _ _ _:=C2.out w2 hb
        clear C1 C2 hb HW0
        go_wp2_with fail
        refine (D2.out).mono ?_
        rintro e w3 ⟨rfl,hb⟩
        have D3:HidC _ _ _ _ _:=C3.out w3 hb
        clear D2 C3 hb cc
        go_wp2_with fail
        refine (D3.out).mono ?_
        rintro e w4 ⟨rfl,hb⟩
        have cc:=(HH.out w4 _ hb).2
        have D4:HidC _ _ _ _ _:=C4.out w4 hb
        clear D3 C4 hb
        go_wp2_with fail
        refine (D4.out).mono ?_
        rintro e w5 ⟨rfl,hb⟩
        have D5:HidC _ _ _ _ _:=C5.out w5 hb
        clear D4 C5 hb cc
        go_wp2_with fail
        refine (D5.out).mono ?_
        rintro e w6 ⟨rfl,hb⟩
        have HK6:Hid _:=HE.out w6 _ hb
        clear D5 hb HH HE
        go_wp2_with fail
        exact ⟨⟨i+1,_,by omega,by go_num,by simp,HF,HK6⟩,by simp [intOf];omega⟩
    · have hlt':¬ (i:Int) < (A.length:Int):=by omega
      have hS:=HR.out
      rw [List.drop_eq_nil_of_le (by omega),prB,List.append_nil] at hS
      have hB:=HK.out.s
      have C1:HidC Tryz.prog 25 #[.pointer (some ⟨w.heap.size,0,none⟩),.string ⟨#[125]⟩] wr (fun e w'=>e=.returned (.tuple #[.int .i64 1,.nilIface])∧BS w.heap.size w.heap.size w (acc++[125]) w'):=ws_any [125] hB (by rw [← hS];exact hT2)
      have HF:Hid (T=acc++[125]):=by show T=_;rw [HTT2.out,hS]
      obtain ⟨c,hc⟩:∃ c:UInt8,c=if decide (i=0) then 123 else 44:=⟨_,rfl⟩
      rw [← hc]
      clear hc
      clear HR HK HV HRw hS hB HTT2 hT2 hRl hRn
      go_wp2_with fail
      refine (C1.out).mono ?_
      rintro e w2 ⟨rfl,hb⟩
      have HS:HidC _ _ _ _ _:=bstr_any hb
      clear C1 hb
      go_wp2_with fail
      refine (HS.out).mono ?_
      rintro e w3 ⟨rfl,hb⟩
      have hbl:=hb.bl
      clear hb HS
      go_wp2_with fail
      go_ret
      exact ⟨congrArg (fun z:List UInt8=>Ending.returned (Value.string ⟨z.toArray⟩)) HF.out.symm,hbl⟩
end Go.Proofs.YtifapjammoahgaaGreatDoor.La
/- THE CODE'S escaped, unescape, Unhelp. Own work of the verifier. -/
set_option maxRecDepth 100000
set_option maxHeartbeats 4000000
namespace Go.Proofs.YtifapjammoahgaaGreatDoor.La
open Go.RowKit
def escP (q:Bool):List UInt8→Option UInt8
  | []=>none
  | b::_=>if b.toNat=110 then some 10 else if b.toNat=92∨q=true∧b.toNat=34 then some b else none
def TellsP (q:Bool) (l:List UInt8) (e:Ending):Prop:=(∃ b:UInt8,escP q l=some b∧e=.returned (.tuple #[.int .u8 (b.toNat:Int),.bool true]))∨(∃ z:Int,escP q l=none∧e=.returned (.tuple #[.int .u8 z,.bool false]))
theorem escp_any (q:Bool) (l:List UInt8) (w:World) :
    Calls Tryz.prog 201 #[.string ⟨l.toArray⟩,.string ⟨(spc q).toArray⟩] w fun r w'=>TellsP q l r∧∃ n,w'=w.drewN n:=by
  have HX:Hid (∀ (b:UInt8) (W:World),Calls Tryz.prog 71 #[.string ⟨(spc q).toArray⟩,.int .u8 (b.toNat:Int)] W fun e w'=>e=.returned (.int .i64 (Lib.indexByte (spc q) b))∧w'=W):=fun b W=>idx_any q b W
  have HQ:Hid (∀ b:UInt8,(0:Int)≤Lib.indexByte (spc q) b ↔ (b.toNat=92∨q=true∧b.toNat=34)):=fun b=>idx_spc q b
  generalize spc q=sp at *
  cases l with
  | nil =>
    have HF:Hid (TellsP q [] (.returned (.tuple #[.int .u8 0,.bool false]))):=Or.inr ⟨0,rfl,rfl⟩
    clear HX HQ
    as_aux_lemma =>
      go_enter Tryz.func201,Tryz.ntmps201
      go_wp2_with fail
      go_ret2
      exact ⟨HF.out,0,rfl⟩
  | cons b r =>
    have hne:((b::r) == [])=false:=rfl
    have hBy:0 < (ByteArray.mk (b::r).toArray).size:=by show 0 < (b::r).toArray.size;simp
    have hbe:(ByteArray.mk (b::r).toArray)[0]'hBy=b:=rfl
    have HX1:Hid _:=HX.out ((ByteArray.mk (b::r).toArray)[0]'hBy)
    have hq:=HQ.out ((ByteArray.mk (b::r).toArray)[0]'hBy)
    rw [hbe] at hq
    have hE:escP q (b::r)=if b.toNat=110 then some 10 else if b.toNat=92∨q=true∧b.toNat=34 then some b else none:=rfl
    have hlen:(b::r).length=r.length+1:=rfl
    obtain ⟨l,hl⟩:∃ l,l=b::r:=⟨_,rfl⟩
    have h0:(0:Int) < (l.length:Int):=by rw [hl,hlen];omega
    rw [← hl] at hE
    by_cases g1:b.toNat=110
    · have t1:((b.toNat:Int) == 110)=true:=by rw [beq_iff_eq];omega
      have HF:Hid (TellsP q (b::r) (.returned (.tuple #[.int .u8 10,.bool true]))):=Or.inl ⟨10,by rw [← hl,hE,if_pos g1],rfl⟩
      subst hl
      clear HX HQ HX1 hq hE g1
      as_aux_lemma =>
        go_enter Tryz.func201,Tryz.ntmps201
        go_wp2_with fail
        go_ret2
        exact ⟨HF.out,0,rfl⟩
    · have t1:((b.toNat:Int) == 110)=false:=by rw [beq_eq_false_iff_ne];omega
      rw [if_neg g1] at hE
      by_cases g2:b.toNat=92∨q=true∧b.toNat=34
      · have t2:=hq.2 g2
        have HF:Hid (TellsP q (b::r) (.returned (.tuple #[.int .u8 (b.toNat:Int),.bool true]))):=Or.inl ⟨b,by rw [← hl,hE,if_pos g2],rfl⟩
        rw [hbe] at HX1
        subst hl
        generalize Lib.indexByte sp b=z at *
        clear HX HQ hq hE g1 g2
        as_aux_lemma =>
          go_enter Tryz.func201,Tryz.ntmps201
          go_wp2_with fail
          go_quiet (first | (go_at_call 71;exact Calls.quiet_of_same (HX1.out _)))
          go_wp2_with fail
          go_ret2
          exact ⟨HF.out,_,rfl⟩
      · have t2:¬ (0:Int)≤Lib.indexByte sp b:=fun h=>g2 (hq.1 h)
        have HF:Hid (TellsP q (b::r) (.returned (.tuple #[.int .u8 (b.toNat:Int),.bool (decide ((0:Int)≤Lib.indexByte sp b))]))):=by rw [decide_eq_false t2];exact Or.inr ⟨_,by rw [← hl,hE,if_neg g2],rfl⟩
        rw [hbe] at HX1
        subst hl
        generalize Lib.indexByte sp b=z at *
        clear HX HQ hq hE g1 g2
        as_aux_lemma =>
          go_enter Tryz.func201,Tryz.ntmps201
          go_wp2_with fail
          go_quiet (first | (go_at_call 71;exact Calls.quiet_of_same (HX1.out _)))
          go_wp2_with fail
          go_ret2
          exact ⟨HF.out,_,rfl⟩
def unE (q:Bool):List UInt8→Nat→Except Nat (List UInt8 × Nat)
  | [],p=>.ok ([],p)
  | b::r,p=>if b.toNat=10 then .error p else if b.toNat=92 then
      match r with
      | []=>.error p
      | c::r'=>if c.toNat=110 then (unE q r' (p+2)).map fun t=>(10::t.1,t.2) else if c.toNat=92∨q=true∧c.toNat=34 then (unE q r' (p+2)).map fun t=>(c::t.1,t.2) else .error p
    else if q=true∧b.toNat=34 then .ok ([],p) else (unE q r (p+1)).map fun t=>(b::t.1,t.2)
theorem ue_end (q:Bool) (l:List UInt8) (i:Nat) (h:¬ i < l.length):unE q (l.drop i) i=.ok ([],i):=by
  rw [List.drop_eq_nil_of_le (by omega),unE]
theorem ue_ten (q:Bool) (l:List UInt8) (i:Nat) (h:i < l.length) (h1:l[i].toNat=10):unE q (l.drop i) i=.error i:=by
  rw [List.drop_eq_getElem_cons h,unE.eq_def]
  simp only
  rw [if_pos h1]
theorem ue_quote (q:Bool) (l:List UInt8) (i:Nat) (h:i < l.length) (h1:q=true∧l[i].toNat=34):unE q (l.drop i) i=.ok ([],i):=by
  rw [List.drop_eq_getElem_cons h,unE.eq_def]
  simp only
  rw [if_neg (by omega),if_neg (by omega),if_pos h1]
theorem ue_low (q:Bool) (l:List UInt8) (i:Nat) (h:i < l.length) (h0:l[i].toNat≠10) (h1:l[i].toNat≠92) (h2:¬ (q=true∧l[i].toNat=34)):unE q (l.drop i) i=(unE q (l.drop (i+1)) (i+1)).map fun t=>(l[i]::t.1,t.2):=by
  rw [List.drop_eq_getElem_cons h,unE.eq_def]
  simp only
  rw [if_neg h0,if_neg h1,if_neg h2]
theorem ue_back (q:Bool) (l:List UInt8) (i:Nat) (h:i < l.length) (h1:l[i].toNat=92):unE q (l.drop i) i=match escP q (l.drop (i+1)) with
    | none=>.error i
    | some c=>(unE q (l.drop (i+2)) (i+2)).map fun t=>(c::t.1,t.2):=by
  rw [List.drop_eq_getElem_cons h,unE.eq_def]
  simp only
  rw [if_neg (by omega),if_pos h1]
  by_cases k:i+1 < l.length
  · rw [List.drop_eq_getElem_cons k]
    simp only [escP]
    by_cases e1:l[i+1].toNat=110
    · simp only [e1,if_true]
    · simp only [e1,if_false]
      by_cases e2:l[i+1].toNat=92∨q=true∧l[i+1].toNat=34
      · simp only [e2,if_true]
      · simp only [e2,if_false]
  · rw [List.drop_eq_nil_of_le (by omega)]
    rfl
def UeI (q:Bool) (l:List UInt8) (i:Nat) (acc:List UInt8):Prop:=unE q l 0=(unE q (l.drop i) i).map fun t=>(acc++t.1,t.2)
theorem UeI.step {q:Bool} {l:List UInt8} {i j:Nat} {acc:List UInt8} {b:UInt8} (h:UeI q l i acc) (hd:unE q (l.drop i) i=(unE q (l.drop j) j).map fun t=>(b::t.1,t.2)):UeI q l j (acc++[b]):=by
  unfold UeI at *
  rw [h,hd]
  cases unE q (l.drop j) j with
  | error e=>rfl
  | ok t=>simp [Except.map]
def TellsE (q:Bool) (l:List UInt8) (e:Ending):Prop:=(∃ p:Nat,unE q l 0=.error p∧e=.returned (.tuple #[.string ⟨#[]⟩,.int .i64 (p:Int),.bool false]))∨(∃ (t:List UInt8) (p:Nat),unE q l 0=.ok (t,p)∧e=.returned (.tuple #[.string ⟨t.toArray⟩,.int .i64 (p:Int),.bool true]))
theorem UeI.bad {q:Bool} {l:List UInt8} {i:Nat} {acc:List UInt8} (h:UeI q l i acc) (hd:unE q (l.drop i) i=.error i):TellsE q l (.returned (.tuple #[.string ⟨#[]⟩,.int .i64 (i:Int),.bool false])) :=
  Or.inl ⟨i,by rw [show unE q l 0=_ from h,hd];rfl,rfl⟩
theorem UeI.good {q:Bool} {l:List UInt8} {i:Nat} {acc:List UInt8} (h:UeI q l i acc) (hd:unE q (l.drop i) i=.ok ([],i)):TellsE q l (.returned (.tuple #[.string ⟨acc.toArray⟩,.int .i64 (i:Int),.bool true])) :=
  Or.inr ⟨acc,i,by rw [show unE q l 0=_ from h,hd];simp [Except.map],rfl⟩
theorem BS.drewN {B k:Nat} {w0 W:World} {l:List UInt8} (h:BS B k w0 l W) (n:Nat):BS B k w0 l (W.drewN n):=by
  induction n with
  | zero=>exact h
  | succ n ih=>exact ⟨ih.ib,⟨ih.bl.os,ih.bl.tape,ih.bl.output,ih.bl.size,ih.bl.block⟩,ih.ok,ih.sz⟩
theorem unesc_any (q:Bool) (l:List UInt8) (hl:l.length≤140737488355328) (w:World) :
    Calls Tryz.prog 200 #[.string ⟨l.toArray⟩,.string ⟨(spc q).toArray⟩] w fun r w'=>TellsE q l r∧Below w.heap.size w w':=by
  have HX:Hid (∀ (b:UInt8) (W:World),Calls Tryz.prog 71 #[.string ⟨(spc q).toArray⟩,.int .u8 (b.toNat:Int)] W fun e w'=>e=.returned (.int .i64 (Lib.indexByte (spc q) b))∧w'=W):=fun b W=>idx_any q b W
  have HQ:Hid (∀ b:UInt8,(0:Int)≤Lib.indexByte (spc q) b ↔ (b.toNat=92∨q=true∧b.toNat=34)):=fun b=>idx_spc q b
  have HP:Hid (∀ (m:List UInt8) (W:World),Calls Tryz.prog 201 #[.string ⟨m.toArray⟩,.string ⟨(spc q).toArray⟩] W fun r w'=>TellsP q m r∧∃ n,w'=W.drewN n):=fun m W=>escp_any q m W
  have HW:Hid (∀ (W:World) (acc:List UInt8) (b:UInt8),BS w.heap.size w.heap.size w acc W→acc.length+1≤140737488355328→Calls Tryz.prog 85 #[.pointer (some ⟨w.heap.size,0,none⟩),.int .u8 (b.toNat:Int)] W fun e w'=>e=.returned .nilIface∧BS w.heap.size w.heap.size w (acc++[b]) w'):=fun W acc b h1 h2=>wb_any b h1 h2
  have HS:Hid (∀ (W:World) (acc:List UInt8),BS w.heap.size w.heap.size w acc W→Calls Tryz.prog 17 #[.pointer (some ⟨w.heap.size,0,none⟩)] W fun e w'=>e=.returned (.string ⟨acc.toArray⟩)∧BS w.heap.size w.heap.size w acc w'):=fun W acc h=>bstr_any h
  have HB0:Hid (BS w.heap.size w.heap.size w [] (w.alloc (.cells #[.pointer none,.slice none 0 0] 53))):=BS.new w
  have HI0:Hid (UeI q l 0 []):=by
    show unE q l 0=_
    rw [List.drop_zero]
    cases unE q l 0 <;> rfl
  generalize spc q=sp at *
  go_enter Tryz.func200,Tryz.ntmps200
  go_wp2_with fail
  go_loopw [5] (fun a W=>∃ (i:Nat) (acc:List UInt8),i≤l.length∧acc.length≤i∧a=.int .i64 (i:Int)∧Hid (UeI q l i acc)∧Hid (BS w.heap.size w.heap.size w acc W)) (fun a _=>l.length - (intOf a).toNat)
  case atStart=>exact ⟨0,[],by omega,by simp,rfl,HI0,HB0⟩
  case round =>
    clear HI0 HB0
    obtain ⟨i,acc,hi,hac,rfl,HI,HB⟩:=hrel
    by_cases hlt:i < l.length
    · have hlt':(i:Int) < (l.length:Int):=by omega
      have hBy:i < (ByteArray.mk l.toArray).size:=by show i < l.toArray.size;simpa using hlt
      have hbe:(ByteArray.mk l.toArray)[i]'hBy=l[i]:=rfl
      by_cases g1:l[i].toNat=10
      · have t1:((((ByteArray.mk l.toArray)[i]'hBy).toNat:Int) == 10)=true:=by rw [beq_iff_eq,hbe];omega
        have HF:Hid _:=HI.out.bad (ue_ten q l i hlt g1)
        have hbl:=HB.out.bl
        clear HX HQ HP HW HS HI HB g1 hbe
        as_aux_lemma =>
          go_wp2_with fail
          go_ret3
          exact ⟨HF.out,hbl⟩
      · have t1:((((ByteArray.mk l.toArray)[i]'hBy).toNat:Int) == 10)=false:=by rw [beq_eq_false_iff_ne,hbe];omega
        by_cases g2:l[i].toNat=92
        · have t2:((((ByteArray.mk l.toArray)[i]'hBy).toNat:Int) == 92)=true:=by rw [beq_iff_eq,hbe];omega
          obtain ⟨j,hj⟩:∃ j,j=i+1:=⟨_,rfl⟩
          have hj1:(i:Int)+1=(j:Int):=by omega
          have hj2:(j:Int)≤(l.length:Int):=by omega
          have hdr:=drop_bytes l j
          have hu:=ue_back q l i hlt g2
          rw [← hj] at hu
          have HP1:Hid _:=HP.out (l.drop j)
          obtain ⟨m,hm⟩:∃ m,m=l.drop j:=⟨_,rfl⟩
          have hmn:¬ i+1 < l.length→m=[]:=fun k=>by rw [hm];exact List.drop_eq_nil_of_le (by omega)
          rw [← hm] at hu HP1 hdr
          clear hm HX HQ HP g1 g2 hbe hj
          cases he:escP q m with
          | none =>
            rw [he] at hu
            have HF:Hid _:=HI.out.bad hu
            have hbl:=HB.out.bl
            have HE:Hid _:=he
            clear hmn
            clear hu HW HS HI HB he
            as_aux_lemma =>
              go_wp2_with fail
              refine (HP1.out _).mono ?_
              rintro e w1 ⟨hT,n,rfl⟩
              rcases hT with ⟨b,hb,rfl⟩ | ⟨z,hb,rfl⟩
              · rw [HE.out] at hb;cases hb
              clear HP1 hb
              go_wp2_with fail
              go_ret3
              exact ⟨HF.out,bel_drewN hbl n⟩
          | some c =>
            rw [he] at hu
            have HI2:Hid _:=HI.out.step hu
            have hle:i+2≤l.length:=by
              rcases Nat.lt_or_ge (i+1) l.length with k | k
              · omega
              · rw [hmn (by omega)] at he;cases he
            have HE:Hid _:=he
            clear hmn
            have HC:Hid (∀ n,Calls Tryz.prog 85 #[.pointer (some ⟨w.heap.size,0,none⟩),.int .u8 (c.toNat:Int)] (wr.drewN n) fun e w'=>e=.returned .nilIface∧BS w.heap.size w.heap.size w (acc++[c]) w'):=fun n=>HW.out _ acc c (HB.out.drewN n) (by omega)
            clear hu HW HS HI HB he
            as_aux_lemma =>
              go_wp2_with fail
              refine (HP1.out _).mono ?_
              rintro e w1 ⟨hT,n,rfl⟩
              rcases hT with ⟨b,hb,rfl⟩ | ⟨z,hb,rfl⟩
              · rw [HE.out] at hb
                cases hb
                clear HP1 HE
                go_wp2_with fail
                refine (HC.out _).mono ?_
                rintro e w2 ⟨rfl,hb⟩
                have HBn:Hid _:=hb
                clear HC hb
                go_wp2_with fail
                exact ⟨⟨i+2,_,by omega,by simp;omega,by go_num,HI2,HBn⟩,by simp [intOf];omega⟩
              · rw [HE.out] at hb;cases hb
        · have t2:((((ByteArray.mk l.toArray)[i]'hBy).toNat:Int) == 92)=false:=by rw [beq_eq_false_iff_ne,hbe];omega
          have HX1:Hid _:=HX.out ((ByteArray.mk l.toArray)[i]'hBy)
          have hq:=HQ.out ((ByteArray.mk l.toArray)[i]'hBy)
          rw [hbe] at hq HX1
          by_cases g3:q=true∧l[i].toNat=34
          · have t3:=hq.2 (Or.inr g3)
            have HF:Hid _:=HI.out.good (ue_quote q l i hlt g3)
            have HS1:HidC _ _ _ _ _:=HS.out wr acc HB.out
            generalize Lib.indexByte sp l[i]=z at *
            clear HX HQ HP HW HS HI HB hq hbe g1 g2 g3
            as_aux_lemma =>
              go_wp2_with (go_at_call 71;refine (HX1.out _).mono ?_;rintro e1 w1 ⟨rfl,rfl⟩)
              refine (HS1.out).mono ?_
              rintro e w2 ⟨rfl,hb⟩
              have hbl:=hb.bl
              clear hb HS1 HX1
              go_wp2_with fail
              go_ret3
              exact ⟨HF.out,hbl⟩
          · have t3:¬ (0:Int)≤Lib.indexByte sp l[i]:=fun h=>(hq.1 h).elim g2 g3
            have HI2:Hid (UeI q l (i+1) (acc++[(ByteArray.mk l.toArray)[i]'hBy])):=HI.out.step (ue_low q l i hlt g1 g2 g3)
            have HC:HidC Tryz.prog 85 #[.pointer (some ⟨w.heap.size,0,none⟩),.int .u8 ((((ByteArray.mk l.toArray)[i]'hBy).toNat:Nat):Int)] wr (fun e w'=>e=.returned .nilIface∧BS w.heap.size w.heap.size w (acc++[(ByteArray.mk l.toArray)[i]'hBy]) w'):=HW.out wr acc _ HB.out (by omega)
            rw [hbe] at HI2 HC
            generalize Lib.indexByte sp l[i]=z at *
            clear HX HQ HP HW HS HI HB hq hbe g1 g2 g3
            as_aux_lemma =>
              go_wp2_with (go_at_call 71;refine (HX1.out _).mono ?_;rintro e1 w1 ⟨rfl,rfl⟩)
              refine (HC.out).mono ?_
              rintro e w2 ⟨rfl,hb⟩
              have HBn:Hid _:=hb
              clear hb HC HX1
              go_wp2_with fail
              exact ⟨⟨i+1,_,by omega,by simp;omega,by go_num,HI2,HBn⟩,by simp [intOf];omega⟩
    · have hlt':¬ (i:Int) < (l.length:Int):=by omega
      have HF:Hid _:=HI.out.good (ue_end q l i hlt)
      have HS1:HidC _ _ _ _ _:=HS.out wr acc HB.out
      clear HX HQ HP HW HS HI HB
      as_aux_lemma =>
        go_wp2_with fail
        refine (HS1.out).mono ?_
        rintro e w2 ⟨rfl,hb⟩
        have hbl:=hb.bl
        clear hb HS1
        go_wp2_with fail
        go_ret3
        exact ⟨HF.out,hbl⟩
end Go.Proofs.YtifapjammoahgaaGreatDoor.La
/- value, the document's. Own work of the verifier. -/
namespace Go.Proofs.YtifapjammoahgaaGreatDoor.La
open Go.RowKit
def valR:List UInt8→Nat→Except (Int × Nat) (List UInt8 × Nat)
  | [],p=>.error (5,p)
  | b::r,p=>if b.toNat=34 then .ok ([],p+1) else if b.toNat=10 then .error (5,p) else if b.toNat=92 then
      match r with
      | []=>.error (5,p)
      | c::r'=>if c.toNat=92∨c.toNat=34 then (valR r' (p+2)).map fun q=>(c::q.1,q.2) else if c.toNat=110 then (valR r' (p+2)).map fun q=>(10::q.1,q.2) else .error (5,p)
    else (valR r (p+1)).map fun q=>(b::q.1,q.2)
theorem val_end (l:List UInt8) (i:Nat) (h:¬ i < l.length):valR (l.drop i) i=.error (5,i):=by
  rw [List.drop_eq_nil_of_le (by omega),valR]
theorem val_low (l:List UInt8) (i:Nat) (h:i < l.length) (h0:l[i].toNat≠34) (h1:l[i].toNat≠10) (h2:l[i].toNat≠92):valR (l.drop i) i=(valR (l.drop (i+1)) (i+1)).map fun q=>(l[i]::q.1,q.2):=by
  rw [List.drop_eq_getElem_cons h,valR.eq_def]
  simp only
  rw [if_neg h0,if_neg h1,if_neg h2]
theorem val_quote (l:List UInt8) (i:Nat) (h:i < l.length) (h0:l[i].toNat=34):valR (l.drop i) i=.ok ([],i+1):=by
  rw [List.drop_eq_getElem_cons h,valR.eq_def]
  simp only
  rw [if_pos h0]
theorem val_ten (l:List UInt8) (i:Nat) (h:i < l.length) (h1:l[i].toNat=10):valR (l.drop i) i=.error (5,i):=by
  rw [List.drop_eq_getElem_cons h,valR.eq_def]
  simp only
  rw [if_neg (by omega),if_pos h1]
theorem val_last (l:List UInt8) (i:Nat) (h:i < l.length) (h1:l[i].toNat=92) (h2:¬ i+1 < l.length):valR (l.drop i) i=.error (5,i):=by
  rw [List.drop_eq_getElem_cons h,valR.eq_def]
  simp only
  rw [if_neg (by omega),if_neg (by omega),if_pos h1,List.drop_eq_nil_of_le (by omega)]
theorem val_two (l:List UInt8) (i:Nat) (h:i+1 < l.length) (h1:l[i].toNat=92):valR (l.drop i) i=if l[i+1].toNat=92∨l[i+1].toNat=34 then (valR (l.drop (i+2)) (i+2)).map fun q=>(l[i+1]::q.1,q.2) else if l[i+1].toNat=110 then (valR (l.drop (i+2)) (i+2)).map fun q=>(10::q.1,q.2) else .error (5,i):=by
  rw [List.drop_eq_getElem_cons (by omega:i < l.length),valR.eq_def]
  simp only
  rw [if_neg (by omega),if_neg (by omega),if_pos h1,List.drop_eq_getElem_cons h]
theorem two_set {w:World} {g:Nat} {u v x y:Value} (z0:w.cell? ⟨g,0,none⟩=some u) (z1:w.cell? ⟨g,1,none⟩=some v) :
    ((w.setCell ⟨g,0,none⟩ x).setCell ⟨g,1,none⟩ y).cell? ⟨g,0,none⟩=some x∧((w.setCell ⟨g,0,none⟩ x).setCell ⟨g,1,none⟩ y).cell? ⟨g,1,none⟩=some y:=by
  constructor
  · rw [World.cell?_setCell_other _ ⟨g,1,none⟩ ⟨g,0,none⟩ _ (by intro h;cases h),World.cell?_setCell_same w _ _ z0]
  · have k:(w.setCell ⟨g,0,none⟩ x).cell? ⟨g,1,none⟩=some v:=by
      rw [World.cell?_setCell_other _ ⟨g,0,none⟩ ⟨g,1,none⟩ _ (by intro h;cases h)]
      exact z1
    exact World.cell?_setCell_same _ _ _ k
end Go.Proofs.YtifapjammoahgaaGreatDoor.La
/- one, the document's. Own work of the verifier. -/
namespace Go.Proofs.YtifapjammoahgaaGreatDoor.La
open Go.RowKit
def nmAt (l:List UInt8) (p:Nat):List UInt8:=(l.drop p).take (rowN false (l.drop p))
def oneR (l:List UInt8) (p:Nat) (L:List Lb):Except (Int × Nat) (Lb × Nat) :=
  if L.length=16 then .error (3,p)
  else if lnameB (nmAt l p)=false then .error (9,p)
  else if L.length≠0∧bhE (L.getD (L.length - 1) ([],[])).1 (nmAt l p)≠0 then .error (bhE (L.getD (L.length - 1) ([],[])).1 (nmAt l p),p)
  else if (l.getD (p+rowN false (l.drop p)) 0).toNat≠61 then .error (5,p+rowN false (l.drop p))
  else if (l.getD (p+rowN false (l.drop p)+1) 0).toNat≠34 then .error (5,p+rowN false (l.drop p)+1)
  else match valR (l.drop (p+rowN false (l.drop p)+2)) (p+rowN false (l.drop p)+2) with
    | .error e=>.error e
    | .ok q=>if txE q.1≠0 then .error (txE q.1,p+rowN false (l.drop p)+2) else .ok ((nmAt l p,q.1),q.2)
theorem load_label (g:Nat) (x y:ByteArray) (w:World) (c0:w.cell? ⟨g,0,none⟩=some (.string x)) (c1:w.cell? ⟨g,1,none⟩=some (.string y)):(loadVar 74 ⟨g,0,none⟩).run Tryz.prog w=.ok (.agg #[.string x,.string y]) w:=by
  simp [loadVar,go_sem,c0,c1]
end Go.Proofs.YtifapjammoahgaaGreatDoor.La
/- THE READER: rest, take. Own work of the verifier. -/
set_option maxRecDepth 100000
set_option maxHeartbeats 1000000
namespace Go.Proofs.YtifapjammoahgaaGreatDoor.La
open Go.RowKit
structure Ex (g:Nat) (w W:World):Prop where
  os:W.os=w.os
  tape:W.tape=w.tape
  output:W.output=w.output
  size:w.heap.size≤W.heap.size
  block:∀ k,k < w.heap.size→k≠g→W.heap[k]? =w.heap[k]?
theorem Ex.refl (g:Nat) (w:World):Ex g w w:=⟨rfl,rfl,rfl,Nat.le_refl _,fun _ _ _=>rfl⟩
theorem Ex.of {g:Nat} {w W:World} (h:Below w.heap.size w W):Ex g w W:=⟨h.os,h.tape,h.output,h.size,fun k hk _=>h.block k hk⟩
theorem Ex.trans {g:Nat} {a b c:World} (h:Ex g a b) (k:Ex g b c):Ex g a c :=
  ⟨k.os.trans h.os,k.tape.trans h.tape,k.output.trans h.output,Nat.le_trans h.size k.size,fun i hi hg=>(k.block i (Nat.lt_of_lt_of_le hi h.size) hg).trans (h.block i hi hg)⟩
theorem Ex.set {g:Nat} {w W:World} (h:Ex g w W) (o:Nat) (u:Value):Ex g w (W.setCell ⟨g,o,none⟩ u) :=
  ⟨h.os,h.tape,h.output,by have:=h.size;simpa [World.setCell] using this,fun k hk hg=>by rw [Below.heap_setCell _ _ _ _ hg];exact h.block k hk hg⟩
theorem Ex.below {g:Nat} {w W:World} (h:Ex g w W) {B:Nat} (hB:B≤g) (hs:B≤w.heap.size):Below B w W :=
  ⟨h.os,h.tape,h.output,h.size,fun k hk=>h.block k (by omega) (by omega)⟩
theorem Ex.row {g:Nat} {w W:World} (h:Ex g w W) {b o:Nat} {A:List Lb} (hb:b≠g) (hr:RowL w b o A):RowL W b o A:=fun i hi=>by
  obtain ⟨h1,h2⟩:=hr i hi
  have hk:W.heap[b]? =w.heap[b]?:=h.block b (lt_of_cell h1) hb
  exact ⟨(World.cell?_of_block (w:=w) (w':=W) (a:=⟨b,o+i*2,none⟩) hk).trans h1,(World.cell?_of_block (w:=w) (w':=W) (a:=⟨b,o+i*2+1,none⟩) hk).trans h2⟩
def RdAt (W:World) (g:Nat) (l:List UInt8) (p:Nat):Prop:=W.heap[g]? =some (.cells #[.string ⟨l.toArray⟩,.int .i64 (p:Int)] 152)
theorem RdAt.lt {W:World} {g p:Nat} {l:List UInt8} (h:RdAt W g l p):g < W.heap.size:=(Array.getElem?_eq_some_iff.1 h).1
theorem RdAt.below {W W1:World} {g p:Nat} {l:List UInt8} (h:RdAt W g l p) (hb:Below W.heap.size W W1):RdAt W1 g l p:=(hb.block g h.lt).trans h
theorem RdAt.drewN {W:World} {g p:Nat} {l:List UInt8} (h:RdAt W g l p) (n:Nat):RdAt (W.drewN n) g l p:=h.below (below_drewN W n)
theorem RdAt.cells {W:World} {g p:Nat} {l:List UInt8} (h:RdAt W g l p):W.cell? ⟨g,0,none⟩=some (.string ⟨l.toArray⟩)∧W.cell? ⟨g,1,none⟩=some (.int .i64 (p:Int))∧W.frozen? ⟨g,1,none⟩=false:=by
  have h':W.heap[g]? =some (.cells #[.string ⟨l.toArray⟩,.int .i64 (p:Int)] 152):=h
  refine ⟨?_,?_,?_⟩ <;> simp [World.cell?,World.frozen?,h']
theorem RdAt.set {W:World} {g p:Nat} {l:List UInt8} (h:RdAt W g l p) (r:Nat):RdAt (W.setCell ⟨g,1,none⟩ (.int .i64 (r:Int))) g l r:=by
  have h':W.heap[g]? =some (.cells #[.string ⟨l.toArray⟩,.int .i64 (p:Int)] 152):=h
  unfold RdAt
  simp [World.setCell,Array.getElem?_modify,h']
theorem rest_any (g p:Nat) (l:List UInt8) (hp:p≤l.length) (w:World) (hr:RdAt w g l p) :
    Calls Tryz.prog 132 #[.pointer (some ⟨g,0,none⟩)] w fun r w'=>r=.returned (.string ⟨(l.drop p).toArray⟩)∧∃ n,w'=w.drewN n:=by
  obtain ⟨c0,c1,c2⟩:=hr.cells
  have hdr:=drop_bytes l p
  have hp':(p:Int)≤(l.length:Int):=by omega
  clear hr
  go_enter Tryz.func132,Tryz.ntmps132
  go_wp2_with fail
  go_quiet (fail)
  go_wp2_with fail
  go_ret
  exact ⟨rfl,_,rfl⟩
theorem take_any (g p:Nat) (l s:List UInt8) (hp:p≤l.length) (hl:l.length≤4611686018427387904) (w:World) (hr:RdAt w g l p) :
    Calls Tryz.prog 133 #[.pointer (some ⟨g,0,none⟩),.string ⟨s.toArray⟩] w fun r w'=>r=.returned (.bool (preB (l.drop p) s))∧Ex g w w'∧RdAt w' g l (if preB (l.drop p) s then p+s.length else p):=by
  have HR:HidC _ _ _ _ _:=rest_any g p l hp w hr
  have HP:Hid (∀ W,Calls Tryz.prog 70 #[.string ⟨(l.drop p).toArray⟩,.string ⟨s.toArray⟩] W fun r w'=>r=.returned (.bool (preB (l.drop p) s))∧w'=W):=fun W=>pre_any (l.drop p) s W
  have HRd:Hid (RdAt w g l p):=hr
  have hls:preB (l.drop p) s=true→p+s.length≤l.length:=fun h=>by
    unfold preB at h
    rw [Bool.and_eq_true,decide_eq_true_eq,List.length_drop] at h
    omega
  clear hr
  cases hb:preB (l.drop p) s
  · rw [hb] at HP
    rw [if_neg (by decide)]
    clear hb hls
    as_aux_lemma =>
      go_enter Tryz.func133,Tryz.ntmps133
      go_wp2_with fail
      refine (HR.out).mono ?_
      rintro e w1 ⟨rfl,n,rfl⟩
      clear HR
      go_wp2_with (go_at_call 70;refine (HP.out _).mono ?_;rintro e1 w1 ⟨rfl,rfl⟩)
      go_ret
      exact ⟨rfl,Ex.of (below_drewN w n),RdAt.drewN HRd.out n⟩
  · rw [hb] at HP
    rw [if_pos rfl]
    have hls':=hls hb
    obtain ⟨r,hrr⟩:∃ r,r=p+s.length:=⟨_,rfl⟩
    have hr1:(p:Int)+(s.length:Int)=(r:Int):=by omega
    rw [← hrr]
    have hr2:(r:Int)≤4611686018427387904:=by omega
    clear hb hls hrr
    as_aux_lemma =>
      go_enter Tryz.func133,Tryz.ntmps133
      go_wp2_with fail
      refine (HR.out).mono ?_
      rintro e w1 ⟨rfl,n,rfl⟩
      obtain ⟨c0,c1,c2⟩:=(RdAt.drewN HRd.out n).cells
      clear HR
      go_wp2_with (go_at_call 70;refine (HP.out _).mono ?_;rintro e1 w1 ⟨rfl,rfl⟩)
      go_ret
      exact ⟨rfl,(Ex.of (below_drewN w n)).set _ _,(RdAt.drewN HRd.out n).set r⟩
end Go.Proofs.YtifapjammoahgaaGreatDoor.La
