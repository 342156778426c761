/- THE CODE'S Name AND LabelName. Own work of the verifier. -/
import Derived.Test.YtibahfopmjiffaaGreatDoorSAC
import Derived.Test.YtibahfopmjiffaaGreatDoorSAR
import Derived.Test.YtibahfopmjiffaaGreatDoorSAD
import Derived.Lib.Strings
import Derived.Lib.DecodeN
import Derived.Lib.OthersKept
import Derived.Laws.RangeAny
import Derived.Test.YtibahfopmjiffaaGreatDoorSAE
set_option maxHeartbeats 1000000
namespace Go.Proofs.YtibahfopmjiffaaGreatDoor.La
open Go.RowKit
theorem suf_any (l e:List UInt8) (hl:l.length≤4611686018427387904) (w:World) :
    Calls Tryz.prog 137 #[.string ⟨l.toArray⟩,.string ⟨e.toArray⟩] w fun r w'=>r=.returned (.bool (endsB l e))∧w'=w:=by
  have h:=Tryz.strings_HasSuffix ⟨l.toArray⟩ ⟨e.toArray⟩ w (by show l.toArray.size≤_;rw [List.size_toArray];omega)
  rw [← Lib.hasSuffix_of_drop] at h
  exact h
def preB (l p:List UInt8):Bool:=decide (p.length≤l.length) && (l.take p.length == p)
theorem pre_any (l p:List UInt8) (w:World) :
    Calls Tryz.prog 131 #[.string ⟨l.toArray⟩,.string ⟨p.toArray⟩] w fun r w'=>r=.returned (.bool (preB l p))∧w'=w:=by
  have h:=Tryz.strings_HasPrefix ⟨l.toArray⟩ ⟨p.toArray⟩ w
  rw [← Lib.hasPrefix_of_take] at h
  exact h
theorem cname_any (l:List UInt8) (hl:l.length≤4611686018427387904) (w:World) :
    Calls Tryz.prog 112 #[.string ⟨l.toArray⟩] w fun r w'=>r=.returned (.bool (nameB l))∧w'=w:=by
  have H1:Hid _:=fun W=>suf_any l [95,98,117,99,107,101,116] hl W
  have H2:Hid _:=fun W=>suf_any l [95,115,117,109] hl W
  have H3:Hid _:=fun W=>suf_any l [95,99,111,117,110,116] hl W
  have HW:Hid _:=fun W=>word_any l true hl W
  have hN:nameB l=(plainB true l && !(endsB l [95,98,117,99,107,101,116] || endsB l [95,115,117,109] || endsB l [95,99,111,117,110,116])):=by
    unfold nameB
    cases plainB true l <;> cases endsB l [95,98,117,99,107,101,116] <;> cases endsB l [95,115,117,109] <;> cases endsB l [95,99,111,117,110,116] <;> rfl
  rw [hN]
  clear hN
  unfold fv at HW
  generalize plainB true l=p at *
  generalize endsB l [95,98,117,99,107,101,116]=a at *
  generalize endsB l [95,115,117,109]=b at *
  generalize endsB l [95,99,111,117,110,116]=c at *
  cases p <;> cases a <;> cases b <;> cases c <;> as_aux_lemma =>
    go_enter Tryz.func112,Tryz.ntmps112
    go_wp2_with (first | (go_at_call 137;first | (with_reducible refine (H1.out _).mono ?_;rintro e1 w1 ⟨rfl,rfl⟩) | (with_reducible refine (H2.out _).mono ?_;rintro e1 w1 ⟨rfl,rfl⟩) | (with_reducible refine (H3.out _).mono ?_;rintro e1 w1 ⟨rfl,rfl⟩)) | (go_at_call 138;refine (HW.out _).mono ?_;rintro e1 w1 ⟨rfl,rfl⟩))
    go_ret
    exact ⟨rfl,rfl⟩
theorem clname_any (l:List UInt8) (hl:l.length≤4611686018427387904) (w:World) :
    Calls Tryz.prog 141 #[.string ⟨l.toArray⟩] w fun r w'=>r=.returned (.bool (lnameB l))∧w'=w:=by
  have H1:Hid _:=fun W=>pre_any l [95,95] W
  have HW:Hid _:=fun W=>word_any l false hl W
  have hN:lnameB l=(plainB false l && !((l == [108,101]) || (l == [113,117,97,110,116,105,108,101]) || preB l [95,95])):=by
    unfold lnameB preB
    show _=(plainB false l && !((l == [108,101]) || (l == [113,117,97,110,116,105,108,101]) || (decide (2≤l.length) && (l.take 2 == [95,95]))))
    cases plainB false l <;> cases (l == [108,101]) <;> cases (l == [113,117,97,110,116,105,108,101]) <;> cases (decide (2≤l.length) && (l.take 2 == [95,95])) <;> rfl
  rw [hN]
  clear hN
  unfold fv at HW
  generalize plainB false l=p at *
  generalize preB l [95,95]=c at *
  cases h1:(l == [108,101]) <;> cases h2:(l == [113,117,97,110,116,105,108,101]) <;> cases p <;> cases c <;> as_aux_lemma =>
    go_enter Tryz.func141,Tryz.ntmps141
    go_wp2_with (first | (go_at_call 131;refine (H1.out _).mono ?_;rintro e1 w1 ⟨rfl,rfl⟩) | (go_at_call 138;refine (HW.out _).mono ?_;rintro e1 w1 ⟨rfl,rfl⟩))
    go_ret
    exact ⟨rfl,rfl⟩
end Go.Proofs.YtibahfopmjiffaaGreatDoor.La
/- RIGHT UTF-8, as the language's own range over a text tells it. Own work of the verifier. -/
set_option maxHeartbeats 4000000
namespace Go.Proofs.YtibahfopmjiffaaGreatDoor.La
open Go.RowKit
theorem get_bang (l:List UInt8) (k:Nat):(ByteArray.mk l.toArray).get! k=l.getD k 0:=by
  show l.toArray.get!Internal k=_
  rw [List.getD_eq_getElem?_getD]
  simp [Array.get!Internal]
  rfl
theorem tl_iff (l:List UInt8) (k:Nat):tlAt l k=decide (k < l.length∧(l.getD k 0).toNat / 64=2):=by
  unfold tlAt tlB
  have:=(l.getD k 0).toNat_lt
  rw [Bool.eq_iff_iff]
  simp only [Bool.and_eq_true,decide_eq_true_eq]
  omega
def badAt (l:List UInt8) (i r:Nat):Prop:=r=65533∧¬ (3≤l.length - i∧(l.getD i 0).toNat=239∧(l.getD (i+1) 0).toNat=191∧(l.getD (i+2) 0).toNat=189)
theorem fine_true {n c:Nat} (h:¬ (n=1∧c < 128∨n=2∧c < 2048∨n=3∧c < 65536∨1114111 < c∨55296≤c∧c≤57343)):fine n c=true:=decide_eq_true h
theorem fine_false {n c:Nat} (h:n=1∧c < 128∨n=2∧c < 2048∨n=3∧c < 65536∨1114111 < c∨55296≤c∧c≤57343):fine n c=false:=decide_eq_false (fun k=>k h)
theorem utf_step (l:List UInt8) (i r n:Nat) (h:i < l.length) (hd:Utf8.decode ⟨l.toArray⟩ i=(r,n)) :
    1≤n∧i+n≤l.length∧r≤1114111∧(badAt l i r∧utfB (l.drop i)=false∨¬ badAt l i r∧utfB (l.drop i)=utfB (l.drop (i+n))):=by
  rw [Lib.decode_at,get_bang,get_bang,get_bang,get_bang] at hd
  have e0:l.getD i 0=l[i]:=get_at l i h
  have hsz:(ByteArray.mk l.toArray).size=l.length:=by show l.toArray.size=_;simp
  rw [hsz] at hd
  have q0:=(l.getD i 0).toNat_lt
  have q1:=(l.getD (i+1) 0).toNat_lt
  have q2:=(l.getD (i+2) 0).toNat_lt
  have q3:=(l.getD (i+3) 0).toNat_lt
  have t1:=tl_iff l (i+1)
  have t2:=tl_iff l (i+2)
  have t3:=tl_iff l (i+3)
  have c1:=cont_step l (i+1)
  have c2:=cont_step l (i+2)
  have c3:=cont_step l (i+3)
  unfold badAt
  have u0:=utf_low l i h
  have u1:=fun n c0=>utf_lead l i n c0 h
  have u2:=utf_none l i h
  rw [← e0] at u0 u1 u2
  clear e0
  generalize (l.getD i 0).toNat=b0 at *
  generalize (l.getD (i+1) 0).toNat=b1 at *
  generalize (l.getD (i+2) 0).toNat=b2 at *
  generalize (l.getD (i+3) 0).toNat=b3 at *
  have bad:∀ m,(65533,1)=(r,n)→utfB (l.drop i)=false→¬ (3≤l.length - i∧b0=239∧b1=191∧b2=189)→1≤n∧i+n≤l.length∧r≤1114111∧((r=65533∧¬ (3≤l.length - i∧b0=239∧b1=191∧b2=189))∧utfB (l.drop i)=false∨¬ (r=65533∧¬ (3≤l.length - i∧b0=239∧b1=191∧b2=189))∧utfB (l.drop i)=m):=by
    intro m e1 e2 e3
    obtain ⟨rfl,rfl⟩:=Prod.mk.inj e1
    exact ⟨Nat.le_refl _,by omega,by omega,Or.inl ⟨⟨rfl,e3⟩,e2⟩⟩
  by_cases g1:b0 < 128
  · rw [Lib.decodeN,if_pos g1] at hd
    obtain ⟨rfl,rfl⟩:=Prod.mk.inj hd
    exact ⟨Nat.le_refl _,by omega,by omega,Or.inr ⟨by omega,u0 g1⟩⟩
  by_cases g2:b0 < 192
  · rw [Lib.decodeN,if_neg g1,if_neg (by omega),if_neg (by omega),if_neg (by omega)] at hd
    refine bad _ hd (u2 g1 ?_) (by omega)
    unfold lead
    rw [if_neg (by omega),if_neg (by omega),if_neg (by omega)]
  by_cases g3:b0 < 224
  · have u:=u1 1 (b0 - 192) g1 (by unfold lead;rw [if_pos (by omega)])
    rw [c1 0,t1] at u
    by_cases k1:i+1 < l.length∧b1 / 64=2
    · rw [decide_eq_true k1,if_pos rfl] at u
      simp only [cont] at u
      rw [Lib.decodeN,if_neg g1,if_pos (by omega)] at hd
      by_cases k2:b0 % 32*64+b1 % 64 ≥ 128
      · rw [if_pos k2] at hd
        obtain ⟨rfl,rfl⟩:=Prod.mk.inj hd
        rw [fine_true (by omega),Bool.true_and] at u
        exact ⟨by omega,by omega,by omega,Or.inr ⟨by omega,u⟩⟩
      · rw [if_neg k2] at hd
        rw [fine_false (by omega),Bool.false_and] at u
        exact bad _ hd u (by omega)
    · rw [decide_eq_false k1,if_neg (by decide)] at u
      rw [Lib.decodeN,if_neg g1,if_neg (by omega),if_neg (by omega),if_neg (by omega)] at hd
      exact bad _ hd u (by omega)
  by_cases g4:b0 < 240
  · have u:=u1 2 (b0 - 224) g1 (by unfold lead;rw [if_neg (by omega),if_pos (by omega)])
    rw [c1 1,t1] at u
    by_cases k1:i+1 < l.length∧b1 / 64=2
    · rw [decide_eq_true k1,if_pos rfl,c2 0,t2] at u
      by_cases k2:i+2 < l.length∧b2 / 64=2
      · rw [decide_eq_true k2,if_pos rfl] at u
        simp only [cont] at u
        rw [Lib.decodeN,if_neg g1,if_neg (by omega),if_pos (by omega)] at hd
        by_cases k3:b0 % 16*4096+b1 % 64*64+b2 % 64 ≥ 2048∧(b0 % 16*4096+b1 % 64*64+b2 % 64 < 55296∨(57344≤b0 % 16*4096+b1 % 64*64+b2 % 64∧b0 % 16*4096+b1 % 64*64+b2 % 64≤1114111))
        · rw [if_pos k3] at hd
          obtain ⟨rfl,rfl⟩:=Prod.mk.inj hd
          rw [fine_true (by omega),Bool.true_and] at u
          exact ⟨by omega,by omega,by omega,Or.inr ⟨by omega,u⟩⟩
        · rw [if_neg k3] at hd
          rw [fine_false (by omega),Bool.false_and] at u
          exact bad _ hd u (by omega)
      · rw [decide_eq_false k2,if_neg (by decide)] at u
        rw [Lib.decodeN,if_neg g1,if_neg (by omega),if_neg (by omega),if_neg (by omega)] at hd
        exact bad _ hd u (by omega)
    · rw [decide_eq_false k1,if_neg (by decide)] at u
      rw [Lib.decodeN,if_neg g1,if_neg (by omega),if_neg (by omega),if_neg (by omega)] at hd
      exact bad _ hd u (by omega)
  by_cases g5:b0 < 248
  · have u:=u1 3 (b0 - 240) g1 (by unfold lead;rw [if_neg (by omega),if_neg (by omega),if_pos (by omega)])
    rw [c1 2,t1] at u
    by_cases k1:i+1 < l.length∧b1 / 64=2
    · rw [decide_eq_true k1,if_pos rfl,c2 1,t2] at u
      by_cases k2:i+2 < l.length∧b2 / 64=2
      · rw [decide_eq_true k2,if_pos rfl,c3 0,t3] at u
        by_cases k3:i+3 < l.length∧b3 / 64=2
        · rw [decide_eq_true k3,if_pos rfl] at u
          simp only [cont] at u
          rw [Lib.decodeN,if_neg g1,if_neg (by omega),if_neg (by omega),if_pos (by omega)] at hd
          by_cases k4:b0 % 8*262144+b1 % 64*4096+b2 % 64*64+b3 % 64 ≥ 65536∧(b0 % 8*262144+b1 % 64*4096+b2 % 64*64+b3 % 64 < 55296∨(57344≤b0 % 8*262144+b1 % 64*4096+b2 % 64*64+b3 % 64∧b0 % 8*262144+b1 % 64*4096+b2 % 64*64+b3 % 64≤1114111))
          · rw [if_pos k4] at hd
            obtain ⟨rfl,rfl⟩:=Prod.mk.inj hd
            rw [fine_true (by omega),Bool.true_and] at u
            exact ⟨by omega,by omega,by omega,Or.inr ⟨by omega,u⟩⟩
          · rw [if_neg k4] at hd
            rw [fine_false (by omega),Bool.false_and] at u
            exact bad _ hd u (by omega)
        · rw [decide_eq_false k3,if_neg (by decide)] at u
          rw [Lib.decodeN,if_neg g1,if_neg (by omega),if_neg (by omega),if_neg (by omega)] at hd
          exact bad _ hd u (by omega)
      · rw [decide_eq_false k2,if_neg (by decide)] at u
        rw [Lib.decodeN,if_neg g1,if_neg (by omega),if_neg (by omega),if_neg (by omega)] at hd
        exact bad _ hd u (by omega)
    · rw [decide_eq_false k1,if_neg (by decide)] at u
      rw [Lib.decodeN,if_neg g1,if_neg (by omega),if_neg (by omega),if_neg (by omega)] at hd
      exact bad _ hd u (by omega)
  · rw [Lib.decodeN,if_neg g1,if_neg (by omega),if_neg (by omega),if_neg (by omega)] at hd
    refine bad _ hd (u2 g1 ?_) (by omega)
    unfold lead
    rw [if_neg (by omega),if_neg (by omega),if_neg (by omega)]
theorem pre_three (l:List UInt8) (i:Nat) (_h:i < l.length):preB (l.drop i) [239,191,189]=decide (3≤l.length - i∧(l.getD i 0).toNat=239∧(l.getD (i+1) 0).toNat=191∧(l.getD (i+2) 0).toNat=189):=by
  unfold preB
  rw [List.length_drop]
  show (decide (3≤l.length - i) && ((l.drop i).take 3 == [239,191,189]))=_
  by_cases h3:3≤l.length - i
  · have g0:i < l.length:=by omega
    have g1:i+1 < l.length:=by omega
    have g2:i+1+1 < l.length:=by omega
    rw [List.drop_eq_getElem_cons g0,List.drop_eq_getElem_cons g1,List.drop_eq_getElem_cons g2,get_at l i g0,get_at l (i+1) g1,get_at l (i+2) g2]
    simp only [List.take_succ_cons,List.take_zero]
    rw [Bool.eq_iff_iff]
    simp only [Bool.and_eq_true,decide_eq_true_eq,beq_iff_eq,List.cons.injEq,and_true]
    have n1:∀ (x y:UInt8),x=y ↔ x.toNat=y.toNat:=fun x y=>⟨fun e=>by rw [e],fun e=>UInt8.toNat_inj.1 e⟩
    rw [n1 l[i] 239,n1 l[i+1] 191,n1 l[i+1+1] 189]
    exact Iff.rfl
  · rw [decide_eq_false h3,decide_eq_false (by omega)]
    rfl
end Go.Proofs.YtibahfopmjiffaaGreatDoor.La
/- THE CODE'S isRight, checkText, checkPlace, checkLabel. Own work of the verifier. -/
set_option maxRecDepth 100000
set_option maxHeartbeats 4000000
namespace Go.Proofs.YtibahfopmjiffaaGreatDoor.La
open Go.RowKit
theorem below_iter (w:World) (s:ByteArray) (p:Nat):Below w.heap.size w (w.iter s p):=(Below.refl _ _).alloc (Nat.le_refl _) _
theorem right_any (l:List UInt8) (hl:l.length≤4611686018427387904) (w:World) :
    Calls Tryz.prog 140 #[.string ⟨l.toArray⟩] w fun r w'=>r=.returned (.bool (utfB l))∧Below w.heap.size w w':=by
  obtain ⟨R,hR⟩:∃ R,R=utfB l:=⟨_,rfl⟩
  rw [← hR]
  have HR0:Hid (R=utfB (l.drop 0)):=by show R=_;rw [hR,List.drop_zero]
  clear hR
  go_enter Tryz.func140,Tryz.ntmps140
  go_wp2_with fail
  go_loopw [] (fun W=>∃ pos:Nat,pos≤l.length∧Hid (R=utfB (l.drop pos))∧W=w.iter ⟨l.toArray⟩ pos) (fun W=>l.length - W.iterPos w.heap.size)
  case atStart=>exact ⟨0,by omega,HR0,rfl⟩
  case round =>
    obtain ⟨pos,hpos,HR,hw⟩:=hrel
    subst wr
    clear HR0
    have hsz:(ByteArray.mk l.toArray).size=l.length:=by show l.toArray.size=_;simp
    by_cases hlt:pos < l.length
    · have hnx:∀ ty,(Instr.next (.pointer (some ⟨w.heap.size,0,none⟩)) true ty).run Tryz.prog (w.iter ⟨l.toArray⟩ pos)=_:=fun ty=>run_next_any w ⟨l.toArray⟩ pos ty (by rw [hsz];exact hlt)
      obtain ⟨r,n,hd⟩:∃ r n,Utf8.decode ⟨l.toArray⟩ pos=(r,n):=⟨_,_,rfl⟩
      rw [hd] at hnx
      simp only at hnx
      obtain ⟨h1,h2,h3,h4⟩:=utf_step l pos r n hlt hd
      have hdr:=drop_bytes l pos
      have HP:Hid _:=fun W=>pre_any (l.drop pos) [239,191,189] W
      have hp:=pre_three l pos hlt
      rcases h4 with ⟨hb,hu⟩ | ⟨hb,hu⟩
      · have hr:((r:Int) == 65533)=true:=by rw [beq_iff_eq];have:=hb.1;omega
        rw [decide_eq_false hb.2] at hp
        rw [hp] at HP
        have HF:Hid (R=false):=HR.out.trans hu
        clear HR hb hu hp hd hsz
        as_aux_lemma =>
          go_wp2_with (go_at_call 131;refine (HP.out _).mono ?_;rintro e1 w1 ⟨rfl,rfl⟩)
          go_ret
          exact ⟨congrArg (fun z:Bool=>Ending.returned (Value.bool z)) HF.out.symm,below_iter _ _ _⟩
      · have HR':Hid (R=utfB (l.drop (pos+n))):=HR.out.trans hu
        by_cases hr0:r=65533
        · have hr:((r:Int) == 65533)=true:=by rw [beq_iff_eq];omega
          rw [decide_eq_true (Classical.byContradiction (fun k=>hb ⟨hr0,k⟩))] at hp
          rw [hp] at HP
          clear HR hb hu hp hd hsz hr0
          as_aux_lemma =>
            go_wp2_with (go_at_call 131;refine (HP.out _).mono ?_;rintro e1 w1 ⟨rfl,rfl⟩)
            exact ⟨⟨pos+n,by omega,HR',rfl⟩,by rw [World.iterPos_iter,World.iterPos_iter];omega⟩
        · have hr:((r:Int) == 65533)=false:=by rw [beq_eq_false_iff_ne];omega
          clear HR hb hu hp hd hsz hr0 HP
          as_aux_lemma =>
            go_wp2_with fail
            exact ⟨⟨pos+n,by omega,HR',rfl⟩,by rw [World.iterPos_iter,World.iterPos_iter];omega⟩
    · have hnx:∀ ty,(Instr.next (.pointer (some ⟨w.heap.size,0,none⟩)) true ty).run Tryz.prog (w.iter ⟨l.toArray⟩ pos)=_:=fun ty=>run_next_end w ⟨l.toArray⟩ pos ty (by rw [hsz];exact hlt)
      have HF:Hid (R=true):=by
        have:=HR.out
        rw [List.drop_eq_nil_of_le (by omega),utfB] at this
        exact this
      clear HR hsz
      as_aux_lemma =>
        go_wp2_with fail
        go_ret
        exact ⟨congrArg (fun z:Bool=>Ending.returned (Value.bool z)) HF.out.symm,below_iter _ _ _⟩
theorem ctext_any (l:List UInt8) (hl:l.length≤4611686018427387904) (w:World) :
    Calls Tryz.prog 113 #[.string ⟨l.toArray⟩] w fun r w'=>r=.returned (.int .i64 (txE l))∧Below w.heap.size w w':=by
  have HU:Hid _:=fun W=>right_any l hl W
  unfold txE
  by_cases h:1024 < l.length
  · have h':¬ (l.length:Int)≤1024:=by omega
    have h'':(1024:Int) < (l.length:Int):=by omega
    rw [if_pos h]
    as_aux_lemma =>
      go_enter Tryz.func113,Tryz.ntmps113
      go_wp2_with fail
      go_ret
      exact ⟨rfl,Below.refl _ _⟩
  · have h':(l.length:Int)≤1024:=by omega
    have h'':¬ (1024:Int) < (l.length:Int):=by omega
    rw [if_neg h]
    cases hU:utfB l
    · rw [hU] at HU
      rw [if_neg (by decide)]
      as_aux_lemma =>
        go_enter Tryz.func113,Tryz.ntmps113
        go_wp2_with (go_at_call 140;refine (HU.out _).mono ?_;rintro e1 w1 ⟨rfl,hb⟩)
        go_ret
        exact ⟨rfl,hb⟩
    · rw [hU] at HU
      rw [if_pos rfl]
      as_aux_lemma =>
        go_enter Tryz.func113,Tryz.ntmps113
        go_wp2_with (go_at_call 140;refine (HU.out _).mono ?_;rintro e1 w1 ⟨rfl,hb⟩)
        go_ret
        exact ⟨rfl,hb⟩
def plE (A:List Lb) (n:List UInt8):Int:=if A.length=0 then 0 else bhE (A.getD (A.length - 1) ([],[])).1 n
theorem place_any (ao:Option Addr) (b o cap:Nat) (A:List Lb) (hao:A≠[]→ao=some ⟨b,o,none⟩) (hl:A.length≤9223372036854775807) (n:List UInt8) (w:World) (hA:RowL w b o A) :
    Calls Tryz.prog 142 #[.slice ao A.length cap,.string ⟨n.toArray⟩] w fun r w'=>r=.returned (.int .i64 (plE A n))∧w'=w:=by
  unfold plE
  by_cases h0:A.length=0
  · have e0:((A.length:Int) == 0)=true:=by rw [beq_iff_eq];omega
    rw [if_pos h0]
    clear h0
    as_aux_lemma =>
      go_enter Tryz.func142,Tryz.ntmps142
      go_wp2_with fail
      go_ret
      exact ⟨rfl,rfl⟩
  · have e0:((A.length:Int) == 0)=false:=by rw [beq_eq_false_iff_ne];omega
    rw [if_neg h0]
    have hne:A≠[]:=fun e=>h0 (by rw [e];rfl)
    obtain rfl:=hao hne
    obtain ⟨m,hm⟩:∃ m,m+1=A.length:=⟨A.length - 1,by omega⟩
    have hml:m < A.length:=by omega
    have hw:IntKind.i64.wrap ((A.length:Int) - 1)=(m:Int):=by
      rw [IntKind.wrap_i64];omega
    obtain ⟨g1,g2⟩:=hA m hml
    have hg:A.getD (A.length - 1) ([],[])=A[m]:=by
      rw [show A.length - 1=m from by omega,List.getD_eq_getElem?_getD,List.getElem?_eq_getElem hml];rfl
    rw [hg]
    clear hg
    generalize A[m].1=q at *
    generalize A[m].2=q2 at *
    have hix:=index_lab b o A.length cap m (m:Int) rfl hml
    unfold bhE
    by_cases hq:q=n
    · subst hq
      rw [if_pos rfl]
      clear hne h0 hm
      as_aux_lemma =>
        go_enter Tryz.func142,Tryz.ntmps142
        go_wp2_with fail
        go_ret
        exact ⟨rfl,rfl⟩
    · have hq':(n == q)=false:=by rw [beq_eq_false_iff_ne];exact fun e=>hq e.symm
      rw [if_neg hq]
      have hls:=less_list n q
      cases hb:bltB n q
      · rw [hb] at hls
        rw [if_neg (by decide)]
        clear hne h0 hm hq hb
        as_aux_lemma =>
          go_enter Tryz.func142,Tryz.ntmps142
          go_wp2_with fail
          go_ret
          exact ⟨rfl,rfl⟩
      · rw [hb] at hls
        rw [if_pos rfl]
        clear hne h0 hm hq hb
        as_aux_lemma =>
          go_enter Tryz.func142,Tryz.ntmps142
          go_wp2_with fail
          go_ret
          exact ⟨rfl,rfl⟩
end Go.Proofs.YtibahfopmjiffaaGreatDoor.La
/- THE CODE'S checkLabel AND Check. Own work of the verifier. -/
set_option maxRecDepth 100000
set_option maxHeartbeats 4000000
namespace Go.Proofs.YtibahfopmjiffaaGreatDoor.La
open Go.RowKit
def lbE (A:List Lb) (a:Lb):Int:=if lnameB a.1=false then 9 else if txE a.2≠0 then txE a.2 else plE A a.1
theorem clabel_any (ao:Option Addr) (b o cap:Nat) (A:List Lb) (hao:A≠[]→ao=some ⟨b,o,none⟩) (hl:A.length≤9223372036854775807) (x y:List UInt8) (hx:x.length≤4611686018427387904) (hy:y.length≤4611686018427387904) (w:World) (hA:RowL w b o A) :
    Calls Tryz.prog 114 #[.slice ao A.length cap,.agg #[.string ⟨x.toArray⟩,.string ⟨y.toArray⟩]] w fun r w'=>r=.returned (.int .i64 (lbE A (x,y)))∧Below w.heap.size w w':=by
  have HL:Hid _:=fun W=>clname_any x hx W
  have HT:Hid _:=fun W=>ctext_any y hy W
  have HP:Hid (∀ W,RowL W b o A→Calls Tryz.prog 142 #[.slice ao A.length cap,.string ⟨x.toArray⟩] W fun r w'=>r=.returned (.int .i64 (plE A x))∧w'=W):=fun W hW=>place_any ao b o cap A hao hl x W hW
  have HA:Hid (RowL w b o A):=hA
  unfold lbE
  simp only
  generalize lnameB x=lb at *
  generalize txE y=tz at *
  generalize plE A x=pz at *
  clear hA hao
  cases lb
  · rw [if_pos rfl]
    clear HT HP HA
    as_aux_lemma =>
      go_enter Tryz.func114,Tryz.ntmps114
      go_wp2_with (go_at_call 141;refine (HL.out _).mono ?_;rintro e1 w1 ⟨rfl,rfl⟩)
      go_ret
      exact ⟨rfl,bel1 w _⟩
  · rw [if_neg (by decide)]
    by_cases e1:tz=0
    · subst e1
      rw [if_neg (by decide)]
      as_aux_lemma =>
        go_enter Tryz.func114,Tryz.ntmps114
        go_wp2_with (go_at_call 141;refine (HL.out _).mono ?_;rintro e1 w1 ⟨rfl,rfl⟩)
        refine (HT.out _).mono ?_
        rintro e1 w1 ⟨rfl,hb⟩
        have hb0:Below w.heap.size w w1:=(bel1 w _).trans (hb.mono (by simp))
        have c0:=hb.cell (p:=⟨w.heap.size,0,none⟩) (by simp)
        have r1:RowL w1 b o A:=RowL.below HA.out hb0
        have HP1:Hid (Calls Tryz.prog 142 #[.slice ao A.length cap,.string ⟨x.toArray⟩] w1 fun r w'=>r=.returned (.int .i64 pz)∧w'=w1):=HP.out w1 r1
        clear HL HT HP HA hb r1
        simp [go_sem] at c0
        go_wp2_with (go_at_call 142;refine (HP1.out).mono ?_;rintro e2 w2 ⟨rfl,rfl⟩)
        go_ret
        exact ⟨rfl,hb0⟩
    · rw [if_pos e1]
      have e1':(tz != 0)=true:=by simpa using e1
      clear HP HA e1
      as_aux_lemma =>
        go_enter Tryz.func114,Tryz.ntmps114
        go_wp2_with (go_at_call 141;refine (HL.out _).mono ?_;rintro e1 w1 ⟨rfl,rfl⟩)
        refine (HT.out _).mono ?_
        rintro e1 w1 ⟨rfl,hb⟩
        have hb0:Below w.heap.size w w1:=(bel1 w _).trans (hb.mono (by simp))
        go_wp2_with fail
        go_ret
        exact ⟨rfl,hb0⟩
def DsC (W:World) (d:Ds) (v:Value):Prop:=∃ (ao:Option Addr) (b o cap:Nat),v=.agg #[.int .i64 d.kind,.string ⟨d.name.toArray⟩,.string ⟨d.help.toArray⟩,.slice ao d.labels.length cap]∧(d.labels≠[]→ao=some ⟨b,o,none⟩)∧d.labels.length≤cap∧cap≤9223372036854775807∧RowL W b o d.labels
theorem rowL_take {W:World} {b o:Nat} {A:List Lb} (h:RowL W b o A) (i:Nat):RowL W b o (A.take i):=fun j hj=>by
  rw [List.length_take] at hj
  have:=h j (by omega)
  rw [List.getElem_take]
  exact this
theorem chk_step (A:List Lb) (i:Nat) (h:i < A.length):chkL (A.drop i) (prv A i)=if lbE (A.take i) A[i]≠0 then lbE (A.take i) A[i] else chkL (A.drop (i+1)) (prv A (i+1)):=by
  rw [chkL_drop A i _ h,prv_succ A i h]
  unfold lbE plE
  have hlen:(A.take i).length=i:=by rw [List.length_take];omega
  rw [hlen]
  cases lnameB A[i].1 with
  | false=>simp
  | true =>
    simp only [Bool.true_eq_false,if_false]
    by_cases e1:txE A[i].2=0
    · rw [e1]
      simp only [ne_eq,not_true_eq_false,if_false]
      by_cases e2:i=0
      · rw [if_pos e2]
        have:prv A i=none:=by unfold prv;rw [if_pos e2]
        rw [this]
        simp
      · rw [if_neg e2]
        have hp:prv A i=some (A[i - 1]'(by omega)).1:=by unfold prv;rw [if_neg e2,List.getElem?_eq_getElem (by omega)];rfl
        have hg:(A.take i).getD (i - 1) ([],[])=A[i - 1]'(by omega):=by
          rw [List.getD_eq_getElem?_getD,List.getElem?_take,if_pos (by omega),List.getElem?_eq_getElem (by omega)];rfl
        rw [hp,hg]
    · simp only [ne_eq,e1,not_false_eq_true,if_true]
theorem keepC {w W W1:World} {ao:Option Addr} {b o cap i:Nat} {A:List Lb} {x y:Value} (hb:Below W.heap.size W W1)
    (h:W.cell? ⟨w.heap.size,3,none⟩=some (.slice ao A.length cap)∧W.cell? ⟨b,o+i*2,none⟩=some x∧W.cell? ⟨b,o+i*2+1,none⟩=some y∧KH w ao b o cap A W) :
    W1.cell? ⟨w.heap.size,3,none⟩=some (.slice ao A.length cap)∧W1.cell? ⟨b,o+i*2,none⟩=some x∧W1.cell? ⟨b,o+i*2+1,none⟩=some y∧KH w ao b o cap A W1:=by
  obtain ⟨h1,h2,h3,h4⟩:=h
  exact ⟨(hb.cell (lt_of_cell h1)).trans h1,(hb.cell (lt_of_cell h2)).trans h2,(hb.cell (lt_of_cell h3)).trans h3,h4.below hb⟩
theorem ccheck_any (d:Ds) (v:Value) (w:World) (hd:DsC w d v) (hs:DsS d) :
    Calls Tryz.prog 78 #[v] w fun r w'=>r=.returned (.int .i64 (chkD d))∧Below w.heap.size w w':=by
  obtain ⟨ao,b,o,cap,rfl,h1,hc1,hc2,h3⟩:=hd
  obtain ⟨kd,n,h,A⟩:=d
  simp only at hc1
  obtain ⟨s1,s2,s3⟩:=hs
  have HN:Hid _:=fun W=>cname_any n s1 W
  have HH:Hid _:=fun W=>ctext_any h s2 W
  have HLb:Hid (∀ (i:Nat) (hi:i < A.length) (W:World),RowL W b o A→Calls Tryz.prog 114 #[.slice (some ⟨b,o,none⟩) i cap,.agg #[.string ⟨A[i].1.toArray⟩,.string ⟨A[i].2.toArray⟩]] W fun r w'=>r=.returned (.int .i64 (lbE (A.take i) A[i]))∧Below W.heap.size W w'):=fun i hi W hW=>by
    have hlen:(A.take i).length=i:=by rw [List.length_take];omega
    have:=clabel_any (some ⟨b,o,none⟩) b o cap (A.take i) (fun _=>rfl) (by omega) A[i].1 A[i].2 (s3 _ (List.getElem_mem hi)).1 (s3 _ (List.getElem_mem hi)).2 W (rowL_take hW i)
    rw [hlen] at this
    exact this
  have HK0:Hid (∀ t,KH w ao b o cap A (w.alloc (.cells #[.int .i64 kd,.string ⟨n.toArray⟩,.string ⟨h.toArray⟩,.slice ao A.length cap] t))):=fun t=>⟨by simp [go_sem],h3.below (bel1 w _),bel1 w _⟩
  have hD:chkD ⟨kd,n,h,A⟩=if kd < 1∨3 < kd then 7 else if nameB n=false then 9 else if txE h≠0 then txE h else if 16 < A.length then 3 else chkL A none:=rfl
  rw [hD]
  clear hD h3 s1 s2 s3
  by_cases g1:kd < 1∨3 < kd
  · rw [if_pos g1]
    have k1:(kd != 1)=true:=by simp;omega
    have k2:(kd != 2)=true:=by simp;omega
    have k3:(kd != 3)=true:=by simp;omega
    clear HN HH HLb HK0
    as_aux_lemma =>
      go_enter Tryz.func78,Tryz.ntmps78
      go_wp2_with fail
      go_ret
      exact ⟨rfl,bel1 w _⟩
  rw [if_neg g1]
  have HG:Hid (kd=1∨kd=2∨kd=3):=by show _∨_;omega
  clear g1
  generalize nameB n=nb at *
  obtain ⟨z,hz⟩:∃ z,z=txE h:=⟨_,rfl⟩
  rw [← hz] at HH ⊢
  obtain ⟨R,hR⟩:∃ R,R=chkL A none:=⟨_,rfl⟩
  rw [← hR]
  have HR0:Hid (R=chkL (A.drop 0) (prv A 0)):=hR
  obtain ⟨F,hF⟩:∃ F,F=if nb=false then 9 else if z≠0 then z else if 16 < A.length then 3 else R:=⟨_,rfl⟩
  rw [← hF]
  clear hz hR
  have HFF:Hid (F=if nb=false then 9 else if z≠0 then z else if 16 < A.length then 3 else R):=hF
  clear hF
  go_enter Tryz.func78,Tryz.ntmps78
  go_upto_region 1 with fail
  go_cut [18] (fun v W=>v=.bool false∧W=w.alloc (.cells #[.int .i64 kd,.string ⟨n.toArray⟩,.string ⟨h.toArray⟩,.slice ao A.length cap] 94))
  case first =>
    clear HN HH HLb HK0 HR0
    rcases HG.out with e | e | e <;> subst e <;> as_aux_lemma =>
      go_wp2_with fail
      go_meet
      exact ⟨rfl,rfl⟩
  case rest =>
  obtain ⟨rfl,rfl⟩:=hcut
  clear HG
  have hF:=HFF.out
  clear HFF
  cases nb
  · rw [if_pos rfl] at hF
    have HF:Hid _:=hF
    clear HH HLb HK0 HR0 hF
    as_aux_lemma =>
      go_wp2_with (go_at_call 112;refine (HN.out _).mono ?_;rintro e1 w1 ⟨rfl,rfl⟩)
      go_ret
      exact ⟨retI HF.out.symm,bel1 w _⟩
  rw [if_neg (by decide)] at hF
  by_cases g3:z=0
  · subst g3
    rw [if_neg (by decide)] at hF
    have HFF:Hid _:=hF
    clear hF
    go_wp2_with (go_at_call 112;refine (HN.out _).mono ?_;rintro e1 w1 ⟨rfl,rfl⟩)
    refine (HH.out _).mono ?_
    rintro e1 w1 ⟨rfl,hb⟩
    have HK1:Hid (KH w ao b o cap A w1):=(HK0.out _).below hb
    have f1:=HK1.out.f
    clear HN HH HK0 hb
    by_cases g4:16 < A.length
    · have g4':(16:Int) < (A.length:Int):=by omega
      have hF:=HFF.out
      rw [if_pos g4] at hF
      have HF:Hid _:=hF
      have hbl:=HK1.out.bl
      clear HLb HR0 HK1 HFF hF
      as_aux_lemma =>
        go_wp2_with fail
        go_ret
        exact ⟨retI HF.out.symm,hbl⟩
    have g4':¬ (16:Int) < (A.length:Int):=by omega
    have HFR:Hid (F=R):=by
      have hF:=HFF.out
      rw [if_neg g4] at hF
      exact hF
    clear g4 HFF
    go_wp2_with fail
    go_loopw [36] (fun a W=>∃ i:Nat,i≤A.length∧a=.int .i64 (i:Int)∧Hid (R=chkL (A.drop i) (prv A i))∧Hid (KH w ao b o cap A W)) (fun a _=>A.length - (intOf a).toNat)
    case atStart=>exact ⟨0,by omega,rfl,HR0,HK1⟩
    case round =>
      clear HK1 HR0 f1
      obtain ⟨i,hi,rfl,HR,HK⟩:=hrel
      have f1:=HK.out.f
      by_cases hlt:i < A.length
      · have hlt':(i:Int) < (A.length:Int):=by omega
        obtain rfl:=h1 (by intro k;change A=[] at k;rw [k] at hlt;simp at hlt)
        obtain ⟨q1,q2⟩:=HK.out.r i hlt
        have hS:=HR.out
        rw [chk_step A i hlt] at hS
        have HL1:Hid _:=HLb.out i hlt
        generalize lbE (A.take i) A[i]=bz at *
        generalize A[i].1=x1 at *
        generalize A[i].2=x2 at *
        have hic:(i:Int)≤(cap:Int):=by omega
        clear HR HLb
        as_aux_lemma =>
        go_upto_region 13 with fail
        have hG0:wr.cell? ⟨w.heap.size,3,none⟩=some (.slice (some ⟨b,o,none⟩) A.length cap)∧wr.cell? ⟨b,o+i*2,none⟩=some (.string ⟨x1.toArray⟩)∧wr.cell? ⟨b,o+i*2+1,none⟩=some (.string ⟨x2.toArray⟩)∧KH w (some ⟨b,o,none⟩) b o cap A wr:=⟨f1,q1,q2,HK.out⟩
        go_cut [5] from 37 to 52 (fun v W=>v=.int .i64 bz∧Hid (KH w (some ⟨b,o,none⟩) b o cap A W))
        case first =>
          clear hS
          as_aux_lemma =>
            go_region_held3 (fun W=>W.cell? ⟨w.heap.size,3,none⟩=some (.slice (some ⟨b,o,none⟩) A.length cap)∧W.cell? ⟨b,o+i*2,none⟩=some (.string ⟨x1.toArray⟩)∧W.cell? ⟨b,o+i*2+1,none⟩=some (.string ⟨x2.toArray⟩)∧KH w (some ⟨b,o,none⟩) b o cap A W)
              (first | assumption | exact keepC (by assumption) (by assumption) | exact keepC (bel_drew (Below.refl _ _)) hG0 | exact keepC (bel_drewN (Below.refl _ _) _) hG0)
              (first | (go_at_call 114;with_reducible refine (HL1.out _ (KH.r (by first | assumption | exact (keepC (bel_drew (Below.refl _ _)) hG0).2.2.2 | exact (keepC (bel_drewN (Below.refl _ _) _) hG0).2.2.2))).mono ?_;rintro r w1 ⟨rfl,hb1⟩))
            rename_i hG1
            go_wp2_with fail
            go_meet
            exact ⟨rfl,hG1.2.2.2⟩
        case rest =>
        obtain ⟨rfl,HK5⟩:=hcut
        clear HL1 q1 q2 f1 HK hG0
        by_cases e2:bz=0
        · subst e2
          rw [if_neg (by decide)] at hS
          have HF:Hid (R=chkL (A.drop (i+1)) (prv A (i+1))):=hS
          clear hS
          as_aux_lemma =>
            go_wp2_with fail
            exact ⟨⟨i+1,by omega,by go_num,HF,HK5⟩,by simp [intOf];omega⟩
        · have e2':(bz != 0)=true:=by simpa using e2
          rw [if_pos e2] at hS
          have HF:Hid _:=hS
          have hbl:=HK5.out.bl
          clear hS e2 HK5
          as_aux_lemma =>
            go_wp2_with fail
            go_ret
            exact ⟨retI (HFR.out.trans HF.out).symm,hbl⟩
      · have hlt':¬ (i:Int) < (A.length:Int):=by omega
        have hS:=HR.out
        rw [List.drop_eq_nil_of_le (by omega),chkL] at hS
        have HF:Hid _:=hS
        have hbl:=HK.out.bl
        clear HR HK hS HLb
        as_aux_lemma =>
          go_wp2_with fail
          go_ret
          exact ⟨retI (HFR.out.trans HF.out).symm,hbl⟩
  · rw [if_pos g3] at hF
    have HF:Hid _:=hF
    have g3':(z != 0)=true:=by simpa using g3
    clear HLb HK0 HR0 g3 hF
    as_aux_lemma =>
      go_wp2_with (go_at_call 112;refine (HN.out _).mono ?_;rintro e1 w1 ⟨rfl,rfl⟩)
      refine (HH.out _).mono ?_
      rintro e1 w1 ⟨rfl,hb⟩
      have hb0:Below w.heap.size w w1:=(bel1 w _).trans (hb.mono (by simp))
      go_wp2_with fail
      go_ret
      exact ⟨retI HF.out.symm,hb0⟩
end Go.Proofs.YtibahfopmjiffaaGreatDoor.La
