/- Print: the document's, of layer 2. Own work of the verifier. -/
import Derived.Test.YtibahfopmjiffaaGreatDoorSAP
import Derived.Test.YtibahfopmjiffaaGreatDoorSAJ
import Derived.Test.YtibahfopmjiffaaGreatDoorSAN
import Derived.Test.YtibahfopmjiffaaGreatDoorSAG
import Derived.Test.YtibahfopmjiffaaGreatDoorSAO
import Derived.WalkMore
set_option maxRecDepth 100000
set_option maxHeartbeats 2000000
namespace Go.Proofs.YtibahfopmjiffaaGreatDoor.Rl
open Go.RowKit Soft
def DocText (x:Nat) (l:List UInt8):Prop :=
  9218868437227405312 < x % 9223372036854775808∧l=[78,97,78]∨x=9218868437227405312∧l=[43,73,110,102]∨x=18442240474082181120∧l=[45,73,110,102]∨x=0∧l=[48]∨x=9223372036854775808∧l=[45,48]
  ∨ (1≤x∧x < 9218868437227405312∧∃ c e,DigsOf x c e∧l=txt (Lib.decDigits c) e)
  ∨ (1≤x % 9223372036854775808∧x % 9223372036854775808 < 9218868437227405312∧9223372036854775808≤x∧∃ c e,DigsOf (x % 9223372036854775808) c e∧l=45::txt (Lib.decDigits c) e)
theorem and_sign (x:Nat) (h:x < 18446744073709551616):bits .and .u64 (x:Int) 9223372036854775808=if x < 9223372036854775808 then 0 else 9223372036854775808:=by
  have h1:=u64_and_nat x 9223372036854775808 h (by decide)
  have h2:x &&& 9223372036854775808=if x < 9223372036854775808 then 0 else 9223372036854775808:=by
    rw [show (9223372036854775808:Nat)=2 ^ 63 from by decide]
    have h63:x.testBit 63=decide (¬ x < 2 ^ 63):=by
      rw [Nat.testBit_eq_decide_div_mod_eq]
      rw [show (2:Nat) ^ 63=9223372036854775808 from by decide]
      rw [decide_eq_decide]
      omega
    apply Nat.eq_of_testBit_eq
    intro i
    rw [Nat.testBit_and,Nat.testBit_two_pow]
    by_cases e:63=i
    · subst e
      rw [h63]
      by_cases g:x < 2 ^ 63
      · rw [if_pos g];simp [g]
      · rw [if_neg g,Nat.testBit_two_pow];simp [g]
    · rw [decide_eq_false e,Bool.and_false]
      by_cases g:x < 2 ^ 63
      · rw [if_pos g];simp
      · rw [if_neg g,Nat.testBit_two_pow,decide_eq_false e]
  rw [h2] at h1
  rw [show ((9223372036854775808:Nat):Int)=9223372036854775808 from rfl] at h1
  rw [h1]
  split <;> rfl
theorem txt_len {b c:Nat} {e:Int} (h:DigsOf b c e):(txt (Lib.decDigits c) e).length≤5000:=by
  obtain ⟨d1,d2,d3⟩:=digs_bound h
  have hl2:(Lib.decDigits c).length≤20:=by rw [Lib.decDigits_length];exact Lib.nDigits_le20 c (by omega)
  have hl3:(Lib.decDigits (-e).toNat).length≤20:=by rw [Lib.decDigits_length];exact Lib.nDigits_le20 _ (by omega)
  have hl4:(Lib.decDigits e.toNat).length≤20:=by rw [Lib.decDigits_length];exact Lib.nDigits_le20 _ (by omega)
  unfold txt
  split
  · split
    · rw [List.length_append,List.length_replicate];omega
    · simp;omega
  · split
    · simp;omega
    · split <;> split <;> (simp;omega)
theorem dprint_any (x:Nat) (hx:x < 18446744073709551616) (w:World) :
    Calls Tryz.prog 37 #[.float .f64 x] w fun r w'=>∃ l,r=.returned (.string ⟨l.toArray⟩)∧DocText x l∧Below w.heap.size w w':=by
  have hm:=mf64bits x
  have hc:=clear_sign x hx
  have ha:=and_sign x hx
  have HTx:Hid (∀ b:Nat,1≤b→b < 9218868437227405312→∀ W,Calls Tryz.prog 59 #[.int .u64 (b:Int)] W fun r w'=>∃ (c:Nat) (e:Int),r=.returned (.string ⟨(txt (Lib.decDigits c) e).toArray⟩)∧DigsOf b c e∧Below W.heap.size W w'):=fun b h0 h1 W=>text_any b h0 h1 W
  have HT0:Hid (∀ l,DocText x l ↔ DocText x l):=fun l=>Iff.rfl
  clear HT0
  obtain ⟨y,hy⟩:∃ y,y=x % 9223372036854775808:=⟨_,rfl⟩
  rw [← hy] at hc
  by_cases n1:9218868437227405312 < y
  · have n1':(9218868437227405312:Int) < (y:Int):=by omega
    have HX:Hid (DocText x [78,97,78]):=Or.inl ⟨by rw [← hy];exact n1,rfl⟩
    clear ha hy
    as_aux_lemma =>
      go_enter Tryz.func37,Tryz.ntmps37
      go_wp2_with fail
      go_ret
      exact ⟨_,rfl,HX.out,Below.refl _ _⟩
  have n1':¬ (9218868437227405312:Int) < (y:Int):=by omega
  by_cases n2:x=9218868437227405312
  · have n2':((x:Int) == 9218868437227405312)=true:=by rw [beq_iff_eq];omega
    have N2:Hid _:=n2
    have HX:Hid (DocText x [43,73,110,102]):=Or.inr (Or.inl ⟨N2.out,rfl⟩)
    clear ha hy n2
    as_aux_lemma =>
      go_enter Tryz.func37,Tryz.ntmps37
      go_wp2_with fail
      go_ret
      exact ⟨_,rfl,HX.out,Below.refl _ _⟩
  have n2':((x:Int) == 9218868437227405312)=false:=by rw [beq_eq_false_iff_ne];omega
  by_cases n3:x=18442240474082181120
  · have n3':((x:Int) == 18442240474082181120)=true:=by rw [beq_iff_eq];omega
    have N3:Hid _:=n3
    have HX:Hid (DocText x [45,73,110,102]):=Or.inr (Or.inr (Or.inl ⟨N3.out,rfl⟩))
    clear ha hy n3
    as_aux_lemma =>
      go_enter Tryz.func37,Tryz.ntmps37
      go_wp2_with fail
      go_ret
      exact ⟨_,rfl,HX.out,Below.refl _ _⟩
  have n3':((x:Int) == 18442240474082181120)=false:=by rw [beq_eq_false_iff_ne];omega
  by_cases n4:x=0
  · have n4':((x:Int) == 0)=true:=by rw [beq_iff_eq];omega
    have N4:Hid _:=n4
    have HX:Hid (DocText x [48]):=Or.inr (Or.inr (Or.inr (Or.inl ⟨N4.out,rfl⟩)))
    clear ha hy n4
    as_aux_lemma =>
      go_enter Tryz.func37,Tryz.ntmps37
      go_wp2_with fail
      go_ret
      exact ⟨_,rfl,HX.out,Below.refl _ _⟩
  have n4':((x:Int) == 0)=false:=by rw [beq_eq_false_iff_ne];omega
  by_cases n5:x=9223372036854775808
  · have n5':((x:Int) == 9223372036854775808)=true:=by rw [beq_iff_eq];omega
    have N5:Hid _:=n5
    have HX:Hid (DocText x [45,48]):=Or.inr (Or.inr (Or.inr (Or.inr (Or.inl ⟨N5.out,rfl⟩))))
    clear ha hy n5
    as_aux_lemma =>
      go_enter Tryz.func37,Tryz.ntmps37
      go_wp2_with fail
      go_ret
      exact ⟨_,rfl,HX.out,Below.refl _ _⟩
  have n5':((x:Int) == 9223372036854775808)=false:=by rw [beq_eq_false_iff_ne];omega
  have y1:1≤y:=by omega
  have y2:y < 9218868437227405312:=by omega
  by_cases n6:x < 9223372036854775808
  · have HT':Hid _:=fun W=>HTx.out x (by omega) (by omega) W
    rw [if_pos n6] at ha
    have x2:x < 9218868437227405312:=by omega
    have HX:Hid (∀ c e,DigsOf x c e→DocText x (txt (Lib.decDigits c) e)):=fun c e h=>Or.inr (Or.inr (Or.inr (Or.inr (Or.inr (Or.inl ⟨by omega,x2,c,e,h,rfl⟩)))))
    clear hy
    as_aux_lemma =>
      go_enter Tryz.func37,Tryz.ntmps37
      go_wp2_with fail
      with_reducible refine (HT'.out _).mono ?_
      rintro r w1 ⟨c,e,rfl,hD,hb1⟩
      go_wp2_with fail
      go_ret
      exact ⟨_,rfl,HX.out c e hD,hb1⟩
  · have HT':Hid _:=fun W=>HTx.out y y1 y2 W
    rw [if_neg n6] at ha
    have hlen:∀ c e,DigsOf y c e→(txt (Lib.decDigits c) e).length≤5000:=fun c e h=>txt_len h
    have HLn:Hid _:=hlen
    have HX:Hid (∀ c e,DigsOf y c e→DocText x (45::txt (Lib.decDigits c) e)):=fun c e h=>Or.inr (Or.inr (Or.inr (Or.inr (Or.inr (Or.inr ⟨by omega,by omega,by omega,c,e,by rw [← hy];exact h,rfl⟩)))))
    clear hlen hy
    as_aux_lemma =>
      go_enter Tryz.func37,Tryz.ntmps37
      go_wp2_with fail
      with_reducible refine (HT'.out _).mono ?_
      rintro r w1 ⟨c,e,rfl,hD,hb1⟩
      have hl:=HLn.out c e hD
      have HD:Hid _:=hD
      clear hD
      generalize hg:txt (Lib.decDigits c) e=tt at *
      go_wp2_with fail
      go_ret
      refine ⟨45::tt,congrArg (fun x=>Ending.returned (Value.string x)) ?_,by rw [← hg];exact HX.out c e HD.out,hb1⟩
      apply ByteArray.ext
      simp
end Go.Proofs.YtibahfopmjiffaaGreatDoor.Rl
/- WHAT A TEXT IS WORTH. Own work of the verifier. -/
namespace Go.Proofs.YtibahfopmjiffaaGreatDoor.Rl
open Go.RowKit
def pre (l:List UInt8):List UInt8:=l.takeWhile (fun c=>c != 101)
def fr (l:List UInt8):Nat:=(l.dropWhile (fun c=>c != 46)).length - 1
theorem sd_mod (x:Nat):sd x=sd (x % 9223372036854775808):=by
  unfold sd
  rw [show x % 9223372036854775808 % 9223372036854775808=x % 9223372036854775808 from by omega,show x % 9223372036854775808 % 4503599627370496=x % 4503599627370496 from by omega,
    show x % 9223372036854775808 / 4503599627370496 % 2048=x / 4503599627370496 % 2048 from by omega]
def val (x:Nat):Nat:=(sd x).1*10 ^ ((sd x).2+400).toNat
theorem val_mod (x:Nat):val x=val (x % 9223372036854775808):=by unfold val;rw [sd_mod]
theorem val_lt {a b:Nat} (h0:1≤a) (h:a < b) (h1:b < 9218868437227405312):val a < val b:=of_decide_eq_true (rise_all h0 h h1)
theorem val_small:val 4517329193108106637=10 ^ 394:=by decide +kernel
theorem val_great:val 4921056587992461136=10 ^ 421:=by decide +kernel
theorem pow_ge {u:Nat} (hu:1≤u):10 ^ (Lib.nDigits u - 1)≤u:=by
  have hn:=Lib.nDigits_pos u
  rcases Nat.eq_or_lt_of_le hn with k | k
  · rw [← k];simpa using hu
  · exact le_of_lt_nDigits _ u (by omega) (by omega)
theorem lt_exp10 {a b:Nat} (h:10 ^ a < 10 ^ b):a < b:=(Nat.pow_lt_pow_iff_right (by decide:1 < 10)).1 h
theorem pt_mid (x:Nat) (h0:x % 9223372036854775808≠0) (h1:x % 9223372036854775808 < 9218868437227405312) (hE:hasE (x % 9223372036854775808)=false):-5≤pt x∧pt x≤21:=by
  obtain ⟨s1,s2,s3,s4⟩:=sd_bounds x h0 h1
  have hE':=of_decide_eq_false hE
  have hn:=Lib.nDigits_pos (sd x).1
  have hlo:10 ^ 394≤val x:=by
    rw [val_mod,← val_small]
    rcases Nat.eq_or_lt_of_le (show 4517329193108106637≤x % 9223372036854775808 by omega) with e | e
    · rw [← e];exact Nat.le_refl _
    · exact Nat.le_of_lt (val_lt (by decide) e h1)
  have hhi:val x < 10 ^ 421:=by
    rw [val_mod,← val_great]
    exact val_lt (by omega) (by omega) (by decide)
  have u1:=Lib.lt_pow_nDigits (sd x).1
  have u2:=pow_ge s1
  unfold val at hlo hhi
  unfold pt
  generalize (sd x).1=u at *
  generalize (sd x).2=e at *
  have q1:10 ^ 394 < 10 ^ (Lib.nDigits u+(e+400).toNat):=by
    rw [Nat.pow_add]
    exact Nat.lt_of_le_of_lt hlo (Nat.mul_lt_mul_of_pos_right u1 (Nat.pow_pos (by decide)))
  have q2:10 ^ (Lib.nDigits u - 1+(e+400).toNat) < 10 ^ 421:=by
    rw [Nat.pow_add]
    exact Nat.lt_of_le_of_lt (Nat.mul_le_mul_right _ u2) hhi
  have r1:=lt_exp10 q1
  have r2:=lt_exp10 q2
  omega
theorem text_zero (x:Nat) (h:x % 9223372036854775808=0):pText x=if 9223372036854775808≤x then [45,48] else [48]:=by
  unfold pText fText
  rw [h,show hasE 0=false from by decide,if_neg (by decide),if_pos rfl]
theorem text_nan (x:Nat) (h:9218868437227405312 < x % 9223372036854775808):pText x=[78,97,78]:=by
  unfold pText fText
  have hE:hasE (x % 9223372036854775808)=false:=decide_eq_false (by omega)
  rw [hE,if_neg (by decide),if_neg (by omega),if_pos h]
theorem text_inf (x:Nat) (h:x % 9223372036854775808=9218868437227405312):pText x=if 9223372036854775808≤x then [45,73,110,102] else [43,73,110,102]:=by
  unfold pText fText
  have hE:hasE (x % 9223372036854775808)=false:=decide_eq_false (by omega)
  rw [hE,if_neg (by decide),if_neg (by omega),if_neg (by omega),if_pos h]
end Go.Proofs.YtibahfopmjiffaaGreatDoor.Rl
/- THE TEXT THAT THE DOCUMENT'S Print TELLS IS THE PROGRAM'S. Own work of the verifier. -/
namespace Go.Proofs.YtibahfopmjiffaaGreatDoor.Rl
open Soft
theorem dec_tens (c j:Nat) (hc:1≤c):Lib.decDigits (c*10 ^ j)=Lib.decDigits c++List.replicate j 48:=by
  induction j with
  | zero=>rw [Nat.pow_zero,Nat.mul_one,List.replicate_zero,List.append_nil]
  | succ j ih =>
    have h1:0 < 10 ^ j:=Nat.pow_pos (by decide)
    have h2:0 < c*10 ^ j:=Nat.mul_pos hc h1
    have e:c*10 ^ (j+1)=c*10 ^ j*10:=by rw [Nat.pow_succ,Nat.mul_assoc]
    rw [e,Lib.decDigits,dif_neg (by omega),Nat.mul_div_cancel _ (by decide),Nat.mul_mod_left,ih,List.replicate_succ',List.append_assoc]
    rfl
theorem dec_last (c:Nat):∃ l,Lib.decDigits c=l++[UInt8.ofNat (48+c % 10)]:=by
  by_cases h:c < 10
  · exact ⟨[],by rw [Lib.decDigits_one h,Nat.mod_eq_of_lt h];rfl⟩
  · exact ⟨Lib.decDigits (c / 10),by rw [Lib.decDigits,dif_neg h]⟩
theorem n_tens (c j:Nat) (hc:1≤c):Lib.nDigits (c*10 ^ j)=Lib.nDigits c+j:=by
  have:=congrArg List.length (dec_tens c j hc)
  rw [List.length_append,List.length_replicate,Lib.decDigits_length,Lib.decDigits_length] at this
  exact this
theorem trim_tens (c j:Nat) (hc:c % 10≠0):trimLen (c*10 ^ j)=Lib.nDigits c:=by
  have hc1:1≤c:=by omega
  have hd:=dec_tens c j hc1
  have hl:=Lib.decDigits_length c
  refine (trim_len ⟨?_,?_,Or.inr ?_⟩).symm
  · rw [n_tens c j hc1];omega
  · intro i h hk
    have:(Lib.decDigits (c*10 ^ j))[i]? =some 48:=by
      rw [hd,List.getElem?_append_right (by omega),List.getElem?_replicate,if_pos]
      rw [Lib.decDigits_length,n_tens c j hc1] at h
      omega
    rw [List.getElem?_eq_getElem h] at this
    exact Option.some.inj this
  · obtain ⟨l,e⟩:=dec_last c
    have hn:Lib.nDigits c=l.length+1:=by rw [← hl,e,List.length_append];rfl
    have hlt:Lib.nDigits c - 1 < (Lib.decDigits (c*10 ^ j)).length:=by rw [Lib.decDigits_length,n_tens c j hc1];omega
    refine ⟨hlt,?_⟩
    have:(Lib.decDigits (c*10 ^ j))[Lib.nDigits c - 1]? =some (UInt8.ofNat (48+c % 10)):=by
      rw [hd,e,List.append_assoc,hn,Nat.add_sub_cancel,List.getElem?_append_right (Nat.le_refl _),Nat.sub_self]
      rfl
    rw [List.getElem?_eq_getElem hlt] at this
    rw [Option.some.inj this]
    intro k
    have:=congrArg UInt8.toNat k
    rw [UInt8.toNat_ofNat'] at this
    have h48:(48:UInt8).toNat=48:=rfl
    omega
theorem take_tens (c j:Nat) (hc:1≤c):(Lib.decDigits (c*10 ^ j)).take (Lib.nDigits c)=Lib.decDigits c:=by
  rw [dec_tens c j hc,← Lib.decDigits_length c,List.take_left]
theorem pt_far (x:Nat) (h0:x % 9223372036854775808≠0) (h1:x % 9223372036854775808 < 9218868437227405312) (hE:hasE (x % 9223372036854775808)=true):pt x < -5∨21 < pt x:=by
  obtain ⟨s1,s2,s3,s4⟩:=sd_bounds x h0 h1
  have hE':=of_decide_eq_true hE
  have hn:=Lib.nDigits_pos (sd x).1
  have u1:=Lib.lt_pow_nDigits (sd x).1
  have u2:=pow_ge s1
  rcases hE' with hE' | hE'
  · left
    have hhi:val x < 10 ^ 394:=by
      rw [val_mod,← val_small]
      exact val_lt (by omega) (by omega) (by decide)
    unfold val at hhi
    unfold pt
    generalize (sd x).1=u at *
    generalize (sd x).2=e at *
    have q2:10 ^ (Lib.nDigits u - 1+(e+400).toNat) < 10 ^ 394:=by
      rw [Nat.pow_add]
      exact Nat.lt_of_le_of_lt (Nat.mul_le_mul_right _ u2) hhi
    have r2:=lt_exp10 q2
    omega
  · right
    have hlo:10 ^ 421≤val x:=by
      rw [val_mod,← val_great]
      rcases Nat.eq_or_lt_of_le hE'.1 with e | e
      · rw [← e];exact Nat.le_refl _
      · exact Nat.le_of_lt (val_lt (by decide) e h1)
    unfold val at hlo
    unfold pt
    generalize (sd x).1=u at *
    generalize (sd x).2=e at *
    have q1:10 ^ 421 < 10 ^ (Lib.nDigits u+(e+400).toNat):=by
      rw [Nat.pow_add]
      exact Nat.lt_of_le_of_lt hlo (Nat.mul_lt_mul_of_pos_right u1 (Nat.pow_pos (by decide)))
    have r1:=lt_exp10 q1
    omega
theorem sd_sign (x:Nat):SameD (x % 9223372036854775808)=SameD x:=by
  unfold SameD
  rw [← sd_mod x]
theorem same_text (x c:Nat) (e:Int) (h0:x % 9223372036854775808≠0) (h1:x % 9223372036854775808 < 9218868437227405312) (h:SameD x c e):sgn (decide (9223372036854775808≤x))++txt (Lib.decDigits c) e=pText x:=by
  obtain ⟨j,hu,hc,he⟩:=h
  have hc1:1≤c:=by omega
  have hpt:pt x=e+1:=by
    unfold pt
    rw [hu,n_tens c j hc1]
    omega
  have hl:=Lib.decDigits_length c
  have hn:=Lib.nDigits_pos c
  unfold pText
  cases hE:hasE (x % 9223372036854775808)
  · obtain ⟨m0,m1⟩:=pt_mid x h0 h1 hE
    rw [if_neg (by decide)]
    unfold fText
    rw [if_neg h0,if_neg (by omega),if_neg (by omega),hpt,hu,trim_tens c j hc]
    unfold fB
    rw [take_tens c j hc1,dec_tens c j hc1]
    unfold txt
    generalize Lib.decDigits c=d at *
    generalize sgn (decide (9223372036854775808≤x))=sg
    rw [← hl]
    by_cases a:0≤e
    · rw [if_pos ⟨a,by omega⟩,if_neg (show ¬ e+1≤0 by omega)]
      by_cases k:(d.length:Int)≤e+1
      · rw [if_pos k,if_pos k,show (e+1 - (d.length:Int)).toNat=(e+1).toNat - d.length from by omega,List.append_assoc]
      · rw [if_neg k,if_neg k,List.take_append_of_le_length (by omega)]
        simp only [List.append_assoc]
    · rw [if_neg (fun k=>a k.1),if_pos ⟨by omega,by omega⟩,if_pos (by omega),show (-e - 1).toNat=(-(e+1)).toNat from by omega]
      simp only [List.append_assoc]
  · have hf:=pt_far x h0 h1 hE
    rw [if_pos rfl]
    unfold xText eHead
    rw [hpt,hu,trim_tens c j hc,take_tens c j hc1,dec_tens c j hc1,show e+1 - 1=e from by omega]
    unfold txt Lib.itoa
    obtain ⟨d0,ds,hd⟩:∃ d0 ds,Lib.decDigits c=d0::ds:=by
      cases g:Lib.decDigits c with
      | nil=>rw [g] at hl;simp at hl;omega
      | cons a l=>exact ⟨a,l,rfl⟩
    rw [hd] at hl ⊢
    rw [List.length_cons] at hl
    generalize sgn (decide (9223372036854775808≤x))=sg
    rw [if_neg (by omega),if_neg (by omega),← hl]
    by_cases k:ds.length+1=1
    · rw [if_pos k,if_neg (by rw [List.length_cons];omega)]
      by_cases a:e < 0
      · rw [if_pos a,if_pos a,show (-e).toNat=e.natAbs from by omega]
        simp
      · rw [if_neg a,if_neg a]
        simp
    · rw [if_neg k,if_pos (by rw [List.length_cons];omega)]
      by_cases a:e < 0
      · rw [if_pos a,if_pos a,show (-e).toNat=e.natAbs from by omega]
        simp
      · rw [if_neg a,if_neg a]
        simp
theorem doc_text (x:Nat) (hx:x < 18446744073709551616) (l:List UInt8) (h:DocText x l):l=pText x:=by
  rcases h with ⟨a,rfl⟩ | ⟨rfl,rfl⟩ | ⟨rfl,rfl⟩ | ⟨rfl,rfl⟩ | ⟨rfl,rfl⟩ | ⟨a1,a2,c,e,hD,rfl⟩ | ⟨a1,a2,a3,c,e,hD,rfl⟩
  · exact (text_nan x a).symm
  · rw [text_inf _ (by decide),if_neg (by decide)]
  · rw [text_inf _ (by decide),if_pos (by decide)]
  · rw [text_zero _ (by decide),if_neg (by decide)]
  · rw [text_zero _ (by decide),if_pos (by decide)]
  · have h:=digs_all x c e a1 a2 hD
    have:=same_text x c e (by omega) (by omega) h
    rw [decide_eq_false (by omega)] at this
    exact this
  · have h:=digs_all _ c e a1 a2 hD
    rw [sd_sign] at h
    have:=same_text x c e (by omega) a2 h
    rw [decide_eq_true a3] at this
    exact this
end Go.Proofs.YtibahfopmjiffaaGreatDoor.Rl
/- real.Parse AT ONE DIGIT (printed by gen_vi.py). Own work of the verifier. -/
set_option maxRecDepth 100000
set_option maxHeartbeats 4000000
namespace Go.Proofs.YtibahfopmjiffaaGreatDoor.Rl
open Go.RowKit Go.Sort
theorem dspecial_1 (w:World):Calls Tryz.prog 236 #[.string ⟨#[49]⟩] w fun e w'=>e=.returned (.tuple #[.float .f64 0,.int .i64 0,.bool false])∧w'=w:=by
  go_enter Tryz.func236,Tryz.ntmps236
  go_wp2
  go_ret3
  exact ⟨rfl,rfl⟩
theorem dread_1 (w:World):Calls Tryz.prog 237 #[.string ⟨#[49]⟩] w fun e w'=>e=.returned (.tuple #[.int .u64 1,.int .i64 0,.bool false,.bool false,.bool false,.int .i64 1,.bool true])∧Below w.heap.size w w':=by
  go_enter Tryz.func237,Tryz.ntmps237
  go_wp2_with fail
  go_step3
  go_wp2_with fail
  go_step3
  go_wp2_with fail
  go_rounds 2
  go_wp2_with fail
  rw [Exit.noGoto_ret]
  show bodyPost _ _ _ _ _ _
  simp [bodyPost,results,Tryz.results237,go_sem]
  exact ⟨by decide,Below.refl _ _⟩
theorem dspecial_2 (w:World):Calls Tryz.prog 236 #[.string ⟨#[50]⟩] w fun e w'=>e=.returned (.tuple #[.float .f64 0,.int .i64 0,.bool false])∧w'=w:=by
  go_enter Tryz.func236,Tryz.ntmps236
  go_wp2
  go_ret3
  exact ⟨rfl,rfl⟩
theorem dread_2 (w:World):Calls Tryz.prog 237 #[.string ⟨#[50]⟩] w fun e w'=>e=.returned (.tuple #[.int .u64 2,.int .i64 0,.bool false,.bool false,.bool false,.int .i64 1,.bool true])∧Below w.heap.size w w':=by
  go_enter Tryz.func237,Tryz.ntmps237
  go_wp2_with fail
  go_step3
  go_wp2_with fail
  go_step3
  go_wp2_with fail
  go_rounds 2
  go_wp2_with fail
  rw [Exit.noGoto_ret]
  show bodyPost _ _ _ _ _ _
  simp [bodyPost,results,Tryz.results237,go_sem]
  exact ⟨by decide,Below.refl _ _⟩
theorem dspecial_5 (w:World):Calls Tryz.prog 236 #[.string ⟨#[53]⟩] w fun e w'=>e=.returned (.tuple #[.float .f64 0,.int .i64 0,.bool false])∧w'=w:=by
  go_enter Tryz.func236,Tryz.ntmps236
  go_wp2
  go_ret3
  exact ⟨rfl,rfl⟩
theorem dread_5 (w:World):Calls Tryz.prog 237 #[.string ⟨#[53]⟩] w fun e w'=>e=.returned (.tuple #[.int .u64 5,.int .i64 0,.bool false,.bool false,.bool false,.int .i64 1,.bool true])∧Below w.heap.size w w':=by
  go_enter Tryz.func237,Tryz.ntmps237
  go_wp2_with fail
  go_step3
  go_wp2_with fail
  go_step3
  go_wp2_with fail
  go_rounds 2
  go_wp2_with fail
  rw [Exit.noGoto_ret]
  show bodyPost _ _ _ _ _ _
  simp [bodyPost,results,Tryz.results237,go_sem]
  exact ⟨by decide,Below.refl _ _⟩
theorem dexact (n x:Nat) (hn:n < 100) (hx:floatOfInt .f64 (n:Int)=x) (w:World) (hGl:Glob w):Calls Tryz.prog 246 #[.int .u64 (n:Int),.int .i64 0,.bool false] w fun e w'=>e=.returned (.tuple #[.float .f64 x,.bool true])∧Below w.heap.size w w':=by
  have h52:=hGl.m52
  clear hGl
  go_enter Tryz.func246,Tryz.ntmps246
  go_wp2
  go_ret2
  exact ⟨rfl,Below.refl _ _⟩
theorem datof (s:ByteArray) (n x:Nat) (hn0:0 < n) (hn:n < 100) (_hs1:s.size=1) (hx:floatOfInt .f64 (n:Int)=x)
    (HS:Hid (∀ W,Calls Tryz.prog 236 #[.string s] W fun e w'=>e=.returned (.tuple #[.float .f64 0,.int .i64 0,.bool false])∧w'=W))
    (HR:Hid (∀ W,Calls Tryz.prog 237 #[.string s] W fun e w'=>e=.returned (.tuple #[.int .u64 (n:Int),.int .i64 0,.bool false,.bool false,.bool false,.int .i64 1,.bool true])∧Below W.heap.size W w')) (w:World) (hGl:Glob w) :
    Calls Tryz.prog 234 #[.string s] w fun e w'=>e=.returned (.tuple #[.float .f64 x,.int .i64 1,.nilIface])∧Below w.heap.size w w':=by
  have hn1:((n:Int) == 0)=false:=by rw [beq_eq_false_iff_ne];omega
  have HX:Hid _:=dexact n x hn hx
  clear hx
  go_enter Tryz.func234,Tryz.ntmps234
  go_wp2_with (first
    | (go_at_call 236;refine (HS.out _).mono ?_;rintro e w ⟨rfl,rfl⟩)
    | fail)
  refine (HR.out _).mono ?_
  rintro e w1 ⟨rfl,hb1⟩
  have hG1:=hGl.below hb1
  have ho:=hG1.opt
  go_wp2_with (first
    | (go_at_call 228;with_reducible refine (bool2_u64 _ _).mono ?_;rintro e w1 ⟨rfl,rfl⟩)
    | fail)
  refine (HX.out w1 hG1).mono ?_
  rintro e w2 ⟨rfl,hb2⟩
  go_wp2
  go_ret3
  exact ⟨rfl,hb1.trans (hb2.mono hb1.size)⟩
theorem dprefix (s:ByteArray) (q:Nat) (w:World) (HA:Hid (Calls Tryz.prog 234 #[.string s] w fun e w'=>e=.returned (.tuple #[.float .f64 q,.int .i64 1,.nilIface])∧Below w.heap.size w w')) :
    Calls Tryz.prog 218 #[.string s,.int .i64 64] w fun e w'=>e=.returned (.tuple #[.float .f64 q,.int .i64 1,.nilIface])∧Below w.heap.size w w':=by
  go_enter Tryz.func218,Tryz.ntmps218
  go_wp2_with fail
  refine HA.out.mono ?_
  rintro e w1 ⟨rfl,hb1⟩
  go_wp2
  go_ret3
  exact ⟨rfl,hb1⟩
theorem dparse (s:ByteArray) (q:Nat) (hs1:s.size=1) (w:World) (HA:Hid (Calls Tryz.prog 234 #[.string s] w fun e w'=>e=.returned (.tuple #[.float .f64 q,.int .i64 1,.nilIface])∧Below w.heap.size w w')) :
    Calls Tryz.prog 179 #[.string s,.int .i64 64] w fun e w'=>e=.returned (.tuple #[.float .f64 q,.nilIface])∧Below w.heap.size w w':=by
  go_enter Tryz.func179,Tryz.ntmps179
  go_wp2_with fail
  refine (dprefix s q w HA).mono ?_
  rintro e w1 ⟨rfl,hb1⟩
  go_wp2
  go_ret2
  exact ⟨rfl,hb1⟩
theorem dParse (s:ByteArray) (q:Nat) (hs1:s.size=1) (w:World) (HA:Hid (Calls Tryz.prog 234 #[.string s] w fun e w'=>e=.returned (.tuple #[.float .f64 q,.int .i64 1,.nilIface])∧Below w.heap.size w w')) :
    Calls Tryz.prog 132 #[.string s,.int .i64 64] w fun e w'=>e=.returned (.tuple #[.float .f64 q,.nilIface])∧Below w.heap.size w w':=by
  go_enter Tryz.func132,Tryz.ntmps132
  go_wp2_with fail
  refine (dparse s q hs1 w HA).mono ?_
  rintro e w1 ⟨rfl,hb1⟩
  go_wp2
  go_ret2
  exact ⟨rfl,hb1⟩
theorem dtrim {u k:Nat} {L:List UInt8} (hL:Lib.decDigits u=L) (h1:k≤L.length) (h2:∀ j (h:j < L.length),k≤j→L[j]=48) (h3:k=0∨∃ h:k - 1 < L.length,L[k - 1]≠48):Trim u k:=by
  subst hL
  exact ⟨by rw [← Lib.decDigits_length];exact h1,h2,h3⟩
theorem dsd_1:sd 4607182418800017408=(1000000000000000,-15):=by kernel_rfl
theorem ddd_1:Lib.decDigits 1000000000000000=[49,48,48,48,48,48,48,48,48,48,48,48,48,48,48,48]:=by kernel_rfl
theorem dtr_1:trimLen 1000000000000000=1:=(trim_len (dtrim ddd_1 (by decide) (by decide) (Or.inr ⟨by decide,by decide⟩))).symm
theorem dtext_1:pText 4607182418800017408=[49]:=by
  have hn:Lib.nDigits 1000000000000000=16:=by rw [← Lib.decDigits_length,ddd_1];rfl
  unfold pText
  rw [if_neg (by decide +kernel)]
  unfold fText
  rw [if_neg (by decide),if_neg (by decide),if_neg (by decide)]
  unfold pt
  rw [dsd_1]
  dsimp only
  rw [dtr_1,hn]
  unfold fB
  rw [if_neg (by decide),if_pos (by decide),ddd_1]
  decide
theorem dreal_1 (w:World) (hG:Glob2 w):Calls Tryz.prog 102 #[.string ⟨#[49]⟩] w fun e w'=>e=.returned (.tuple #[.float .f64 4607182418800017408,.int .i64 0])∧Below w.heap.size w w':=by
  have HA:Hid _:=dParse ⟨#[49]⟩ 4607182418800017408 (by decide) w (datof ⟨#[49]⟩ 1 4607182418800017408 (by decide) (by decide) (by decide) (by decide +kernel) dspecial_1 dread_1 w hG.glob)
  have HP:Hid (∀ W,Below w.heap.size w W→Calls Tryz.prog 35 #[.float .f64 4607182418800017408] W fun e w'=>e=.returned (.string ⟨#[49]⟩)∧Below W.heap.size W w'):=fun W hb=>by
    have:=print_all 4607182418800017408 (by decide) W (hG.below hb)
    rw [dtext_1] at this
    exact this
  go_enter Tryz.func102,Tryz.ntmps102
  go_wp2_with fail
  refine Calls.mono HA.out ?_
  rintro e w1 ⟨rfl,hb1⟩
  have HB1:Hid (Below w.heap.size w w1):=hb1
  go_wp2_with fail
  refine Calls.mono (HP.out w1 HB1.out) ?_
  rintro e w2 ⟨rfl,hb2⟩
  go_wp2
  go_ret2
  exact ⟨rfl,HB1.out.trans (hb2.mono HB1.out.size)⟩
theorem dsd_2:sd 4611686018427387904=(2000000000000000,-15):=by kernel_rfl
theorem ddd_2:Lib.decDigits 2000000000000000=[50,48,48,48,48,48,48,48,48,48,48,48,48,48,48,48]:=by kernel_rfl
theorem dtr_2:trimLen 2000000000000000=1:=(trim_len (dtrim ddd_2 (by decide) (by decide) (Or.inr ⟨by decide,by decide⟩))).symm
theorem dtext_2:pText 4611686018427387904=[50]:=by
  have hn:Lib.nDigits 2000000000000000=16:=by rw [← Lib.decDigits_length,ddd_2];rfl
  unfold pText
  rw [if_neg (by decide +kernel)]
  unfold fText
  rw [if_neg (by decide),if_neg (by decide),if_neg (by decide)]
  unfold pt
  rw [dsd_2]
  dsimp only
  rw [dtr_2,hn]
  unfold fB
  rw [if_neg (by decide),if_pos (by decide),ddd_2]
  decide
theorem dreal_2 (w:World) (hG:Glob2 w):Calls Tryz.prog 102 #[.string ⟨#[50]⟩] w fun e w'=>e=.returned (.tuple #[.float .f64 4611686018427387904,.int .i64 0])∧Below w.heap.size w w':=by
  have HA:Hid _:=dParse ⟨#[50]⟩ 4611686018427387904 (by decide) w (datof ⟨#[50]⟩ 2 4611686018427387904 (by decide) (by decide) (by decide) (by decide +kernel) dspecial_2 dread_2 w hG.glob)
  have HP:Hid (∀ W,Below w.heap.size w W→Calls Tryz.prog 35 #[.float .f64 4611686018427387904] W fun e w'=>e=.returned (.string ⟨#[50]⟩)∧Below W.heap.size W w'):=fun W hb=>by
    have:=print_all 4611686018427387904 (by decide) W (hG.below hb)
    rw [dtext_2] at this
    exact this
  go_enter Tryz.func102,Tryz.ntmps102
  go_wp2_with fail
  refine Calls.mono HA.out ?_
  rintro e w1 ⟨rfl,hb1⟩
  have HB1:Hid (Below w.heap.size w w1):=hb1
  go_wp2_with fail
  refine Calls.mono (HP.out w1 HB1.out) ?_
  rintro e w2 ⟨rfl,hb2⟩
  go_wp2
  go_ret2
  exact ⟨rfl,HB1.out.trans (hb2.mono HB1.out.size)⟩
theorem dsd_5:sd 4617315517961601024=(5000000000000000,-15):=by kernel_rfl
theorem ddd_5:Lib.decDigits 5000000000000000=[53,48,48,48,48,48,48,48,48,48,48,48,48,48,48,48]:=by kernel_rfl
theorem dtr_5:trimLen 5000000000000000=1:=(trim_len (dtrim ddd_5 (by decide) (by decide) (Or.inr ⟨by decide,by decide⟩))).symm
theorem dtext_5:pText 4617315517961601024=[53]:=by
  have hn:Lib.nDigits 5000000000000000=16:=by rw [← Lib.decDigits_length,ddd_5];rfl
  unfold pText
  rw [if_neg (by decide +kernel)]
  unfold fText
  rw [if_neg (by decide),if_neg (by decide),if_neg (by decide)]
  unfold pt
  rw [dsd_5]
  dsimp only
  rw [dtr_5,hn]
  unfold fB
  rw [if_neg (by decide),if_pos (by decide),ddd_5]
  decide
theorem dreal_5 (w:World) (hG:Glob2 w):Calls Tryz.prog 102 #[.string ⟨#[53]⟩] w fun e w'=>e=.returned (.tuple #[.float .f64 4617315517961601024,.int .i64 0])∧Below w.heap.size w w':=by
  have HA:Hid _:=dParse ⟨#[53]⟩ 4617315517961601024 (by decide) w (datof ⟨#[53]⟩ 5 4617315517961601024 (by decide) (by decide) (by decide) (by decide +kernel) dspecial_5 dread_5 w hG.glob)
  have HP:Hid (∀ W,Below w.heap.size w W→Calls Tryz.prog 35 #[.float .f64 4617315517961601024] W fun e w'=>e=.returned (.string ⟨#[53]⟩)∧Below W.heap.size W w'):=fun W hb=>by
    have:=print_all 4617315517961601024 (by decide) W (hG.below hb)
    rw [dtext_5] at this
    exact this
  go_enter Tryz.func102,Tryz.ntmps102
  go_wp2_with fail
  refine Calls.mono HA.out ?_
  rintro e w1 ⟨rfl,hb1⟩
  have HB1:Hid (Below w.heap.size w w1):=hb1
  go_wp2_with fail
  refine Calls.mono (HP.out w1 HB1.out) ?_
  rintro e w2 ⟨rfl,hb2⟩
  go_wp2
  go_ret2
  exact ⟨rfl,HB1.out.trans (hb2.mono HB1.out.size)⟩
end Go.Proofs.YtibahfopmjiffaaGreatDoor.Rl
