/- special, AND atof64 AT A FLOAT's TEXT. Own work of the verifier. -/
import Derived.Test.YtifapjammoahgaaGreatDoorSAS
import Derived.WalkMore
set_option maxRecDepth 100000
set_option maxHeartbeats 4000000
namespace Go.Proofs.YtifapjammoahgaaGreatDoor.Rl
open Go.RowKit Go.Sort
theorem prefix_none (c0 : UInt8) (r : List UInt8) (h : isD c0 = true) (hr : r.length ≤ 30) (w : World) :
    Calls Tryz.prog 194 #[.string ⟨(c0 :: r).toArray⟩, .string ⟨#[105, 110, 102, 105, 110, 105, 116, 121]⟩] w fun e w' => e = .returned (.int .i64 0) ∧ w' = w := by
  obtain ⟨h48, h57⟩ := isD_nat h
  have hB : 0 < (ByteArray.mk (c0 :: r).toArray).size := by show 0 < (c0 :: r).toArray.size; simp
  have hbe : ((ByteArray.mk (c0 :: r).toArray)[0]'hB).toNat = c0.toNat := rfl
  have hm : (0 : Int) < min 8 ((r.length : Int) + 1) := by omega
  have t65 : ¬ (65 : Int) ≤ (((ByteArray.mk (c0 :: r).toArray)[0]'hB).toNat : Int) := by rw [hbe]; omega
  have t105 : ((((ByteArray.mk (c0 :: r).toArray)[0]'hB).toNat : Int) != 105) = true := by rw [bne_iff_ne, hbe]; omega
  go_enter Tryz.func194, Tryz.ntmps194
  go_wp2_with fail
  go_loopw [6, 7] (fun i _ wr => i = .int .i64 0 ∧ wr = w) (fun _ _ _ => 0)
  case atStart => exact ⟨rfl, rfl⟩
  case round =>
    obtain ⟨rfl, rfl⟩ := hrel
    go_wp2_with fail
    all_goals first
      | (go_ret; exact ⟨rfl, rfl⟩)
      | (exfalso
         rename_i hh
         have e : (c0.toNat : Int) = 105 := bne_eq_false_iff_eq.1 hh
         omega)
theorem special_none (c0:UInt8) (r:List UInt8) (h:isD c0=true) (hr:r.length≤30) (w:World) :
    Calls Tryz.prog 181 #[.string ⟨(c0::r).toArray⟩] w fun e w'=>e=.returned (.tuple #[.float .f64 0,.int .i64 0,.bool false])∧w'=w:=by
  obtain ⟨h48,h57⟩:=isD_nat h
  have hB:0 < (ByteArray.mk (c0::r).toArray).size:=by show 0 < (c0::r).toArray.size;simp
  have hbe:((ByteArray.mk (c0::r).toArray)[0]'hB).toNat=c0.toNat:=rfl
  have t43:((((ByteArray.mk (c0::r).toArray)[0]'hB).toNat:Int) == 43)=false:=by rw [beq_eq_false_iff_ne,hbe];omega
  have t45:((((ByteArray.mk (c0::r).toArray)[0]'hB).toNat:Int) == 45)=false:=by rw [beq_eq_false_iff_ne,hbe];omega
  have t105:((((ByteArray.mk (c0::r).toArray)[0]'hB).toNat:Int) == 105)=false:=by rw [beq_eq_false_iff_ne,hbe];omega
  have t73:((((ByteArray.mk (c0::r).toArray)[0]'hB).toNat:Int) == 73)=false:=by rw [beq_eq_false_iff_ne,hbe];omega
  have t110:((((ByteArray.mk (c0::r).toArray)[0]'hB).toNat:Int) == 110)=false:=by rw [beq_eq_false_iff_ne,hbe];omega
  have t78:((((ByteArray.mk (c0::r).toArray)[0]'hB).toNat:Int) == 78)=false:=by rw [beq_eq_false_iff_ne,hbe];omega
  go_enter Tryz.func181,Tryz.ntmps181
  go_wp2_with fail
  go_ret3
  exact ⟨rfl,rfl⟩
theorem special_neg (c0:UInt8) (r:List UInt8) (h:isD c0=true) (hr:r.length≤30) (w:World) :
    Calls Tryz.prog 181 #[.string ⟨(45::c0::r).toArray⟩] w fun e w'=>e=.returned (.tuple #[.float .f64 0,.int .i64 0,.bool false])∧w'=w:=by
  have HP:Hid (∀ W,Calls Tryz.prog 194 #[.string ((ByteArray.mk (45::c0::r).toArray).extract 1 (r.length+1+1)),.string ⟨#[105,110,102,105,110,105,116,121]⟩] W fun e w'=>e=.returned (.int .i64 0)∧w'=W):=fun W=>by
    have:=tail_bytes 45 (c0::r)
    rw [List.length_cons] at this
    rw [this]
    exact prefix_none c0 r h hr W
  have hB:0 < (ByteArray.mk (45::c0::r).toArray).size:=by show 0 < (45::c0::r).toArray.size;simp
  have t45:(((ByteArray.mk (45::c0::r).toArray)[0]'hB).toNat:Int)=45:=rfl
  go_enter Tryz.func181,Tryz.ntmps181
  go_wp2_with (first
    | (go_at_call 194;refine (HP.out _).mono ?_;rintro e w ⟨rfl,rfl⟩)
    | fail)
  go_ret3
  exact ⟨rfl,rfl⟩
theorem special_form {l:List UInt8} {n:Bool} {m x:List UInt8} {A:Nat} {S:List UInt8} {z:Int} (hF:Form l n m x A S z) (w:World) :
    Calls Tryz.prog 181 #[.string ⟨l.toArray⟩] w fun e w'=>e=.returned (.tuple #[.float .f64 0,.int .i64 0,.bool false])∧w'=w:=by
  obtain ⟨c,r,hm,hc⟩:=hF.fst
  have hlen:=hF.len
  have hl:=hF.is
  rw [hm] at hl
  rw [hl] at hlen ⊢
  cases n
  · have e:sgn false++(c::r)++x=c::(r++x):=rfl
    rw [e] at hlen ⊢
    exact special_none c (r++x) hc (by rw [List.length_cons] at hlen;omega) w
  · have e:sgn true++(c::r)++x=45::c::(r++x):=rfl
    rw [e] at hlen ⊢
    exact special_neg c (r++x) hc (by rw [List.length_cons,List.length_cons] at hlen;omega) w
end Go.Proofs.YtifapjammoahgaaGreatDoor.Rl
namespace Go.Proofs.YtifapjammoahgaaGreatDoor.Rl
open Go.RowKit Go.Sort Soft
theorem sw_sgnN (n:Bool) (a:Nat):sw n a=sgnN n+a:=by
  cases n
  · rw [sw_f];show a=0+a;omega
  · rw [sw_t];rfl
theorem sgn_split (x:Nat) (hx:x < 18446744073709551616):sgnN (decide (9223372036854775808≤x))+x % 9223372036854775808=x:=by
  by_cases h:9223372036854775808≤x
  · rw [decide_eq_true h]
    show 9223372036854775808+x % 9223372036854775808=x
    omega
  · rw [decide_eq_false h]
    show 0+x % 9223372036854775808=x
    omega
theorem parse_got (x d:Nat) (p:Int) (h0:x % 9223372036854775808≠0) (h1:x % 9223372036854775808 < 9218868437227405312) (hx:x < 18446744073709551616) (hG:Got x d p) (w:World) (hg:7 < w.heap.size) (hT:Pow w) :
    Calls Tryz.prog 192 #[.int .u64 (d:Int),.int .i64 p,.int .u64 ((sgnN (decide (9223372036854775808≤x)):Nat):Int)] w fun r w'=>r=.returned (.tuple #[.float .f64 x,.nilIface])∧Below w.heap.size w w':=by
  obtain ⟨fl,fe⟩:=flt_of (x % 9223372036854775808) (by omega) h1
  obtain ⟨b1,b2,b3⟩:=len_bounds d hG.top (by have:=hG.pos;omega)
  obtain ⟨_,s0,s1,b64⟩:=parse_scale d _ _ p _ hG.top b1 b2 b3 hG.low hG.high fl hG.within
  obtain ⟨hA,hB⟩:=parse_math d _ _ p _ hG.top hG.kind b1 b2 b3 hG.low hG.high fl hG.within
  have hxx:d*2 ^ (64 - Lib.bitLen d) < 18446744073709551616:=by
    have:=Nat.mul_lt_mul_of_pos_right b3 (show 0 < 2 ^ (64 - Lib.bitLen d) from Nat.pow_pos (by decide))
    rw [← Nat.pow_add,show Lib.bitLen d+(64 - Lib.bitLen d)=64 from by omega] at this
    exact this
  have hl:=l2_bounds p (by have:=hG.low;omega) (by have:=hG.high;omega)
  have hu:scl (d*2 ^ (64 - Lib.bitLen d)) (eP (Lib.bitLen d) p - (64 - (Lib.bitLen d:Int))) p < 18446744073709551600:=by
    have hM:=fl.2.1
    rcases Nat.lt_or_ge (scl (d*2 ^ (64 - Lib.bitLen d)) (eP (Lib.bitLen d) p - (64 - (Lib.bitLen d:Int))) p) 36028797018963966 with k | k
    · omega
    · have:=(hB k).1
      rw [cut1_val] at this
      unfold rUp at this
      generalize scl (d*2 ^ (64 - Lib.bitLen d)) (eP (Lib.bitLen d) p - (64 - (Lib.bitLen d:Int))) p=u at *
      split at this <;> omega
  have:=parse64_any (decide (9223372036854775808≤x)) d (Lib.bitLen d) _ _ p _ _ hG.top hG.pos rfl b64 (by have:=hG.low;omega) (by have:=hG.high;omega) fl rfl s1 (by omega) hxx rfl hu hA hB w hg hT
  rw [fe,sgn_split x hx] at this
  exact this
theorem atof_x (x:Nat) (hx:x < 18446744073709551616) (h0:x % 9223372036854775808≠0) (h1:x % 9223372036854775808 < 9218868437227405312) (w:World) (hGl:Glob w) (hP:P10F w) (hg:7 < w.heap.size) :
    Calls Tryz.prog 169 #[.string ⟨(pText x).toArray⟩] w fun e w'=>e=.returned (.tuple #[.float .f64 x,.int .i64 ((pText x).length:Int),.nilIface])∧Below w.heap.size w w':=by
  obtain ⟨d,p,hG,hR⟩:=read_x x h0 h1
  obtain ⟨m,xx,A,c,z,hF,_⟩:=reads_x x h0 h1
  have HS:Hid _:=fun W=>special_form hF W
  have HR:Hid _:=hR
  obtain ⟨fl,fe⟩:=flt_of (x % 9223372036854775808) (by omega) h1
  have HX:Hid (∀ W:World,Glob W→P10F W→Calls Tryz.prog 191 #[.int .u64 (d:Int),.int .i64 p,.bool (decide (9223372036854775808≤x))] W fun r w'=>TellsF x r∧w'=W):=fun W hW hPW=>by
    have:=exact_any (decide (9223372036854775808≤x)) d _ p _ hG.top hG.pos (by have:=hG.low;omega) (by have:=hG.high;omega) fl hG.within W hW hPW
    rw [fe,sw_sgnN,sgn_split x hx] at this
    exact this
  have HPG:Hid _:=fun W=>parse_got x d p h0 h1 hx hG W
  have hl:=hG.low
  have hh:=hG.high
  have hn1:((d:Int) == 0)=false:=by rw [beq_eq_false_iff_ne];have:=hG.pos;omega
  have hd1:=hG.pos
  have hd2:=hG.top
  generalize hT:pText x=T at *
  generalize decide (9223372036854775808≤x)=n at *
  clear hR hF hG fl fe h0 h1 hT
  have ho:=hGl.opt
  have hsg:IntKind.u64.wrap (((b2n n:Nat):Int)*9223372036854775808)=((sgnN n:Nat):Int):=by cases n <;> decide
  go_enter Tryz.func169,Tryz.ntmps169
  go_wp2_with (first
    | (go_at_call 181;refine (HS.out _).mono ?_;rintro e w ⟨rfl,rfl⟩)
    | (go_at_call 182;refine (HR.out _).mono ?_;rintro e w ⟨rfl,rfl⟩)
    | (go_at_call 174;with_reducible refine (bool2_u64 _ _).mono ?_;rintro e w1 ⟨rfl,rfl⟩)
    | fail)
  refine (HX.out _ hGl hP).mono ?_
  rintro e w2 ⟨⟨f,ok,rfl,hok⟩,rfl⟩
  cases ok
  · clear hok
    go_wp2_with fail
    refine (HPG.out _ hg hGl.pow).mono ?_
    rintro e w3 ⟨rfl,hb3⟩
    go_wp2_with fail
    go_ret3
    exact ⟨rfl,hb3⟩
  · obtain rfl:=hok rfl
    go_wp2_with fail
    go_ret3
    exact ⟨rfl,Below.refl _ _⟩
theorem form_zero (n:Bool):Form (sgn n++[48]) n [48] [] 1 [] 0 :=
  ⟨by simp,by cases n <;> decide,⟨48,[],rfl,by decide⟩,fun c hc=>Or.inl (by rw [List.mem_singleton.1 hc];decide),fun p r h=>dot_none [48] (by decide) p r h,by decide,(fun c r h=>by cases h),(fun i h=>by simp at h),Or.inl ⟨rfl,rfl⟩⟩
theorem atof_zero (n:Bool) (w:World) (hGl:Glob w) :
    Calls Tryz.prog 169 #[.string ⟨(sgn n++[48]).toArray⟩] w fun e w'=>e=.returned (.tuple #[.float .f64 (sgnN n),.int .i64 ((sgn n++[(48:UInt8)]).length:Int),.nilIface])∧w'=w:=by
  have HS:Hid _:=fun W=>special_form (form_zero n) W
  have HR:Hid (∀ W,Calls Tryz.prog 182 #[.string ⟨(sgn n++[48]).toArray⟩] W fun e w'=>e=.returned (.tuple #[.int .u64 0,.int .i64 0,.bool n,.bool false,.bool false,.int .i64 ((sgn n++[(48:UInt8)]).length:Int),.bool true])∧w'=W):=fun W=>read_form (form_zero n) W
  have ho:=hGl.opt
  have hsg:IntKind.u64.wrap (((b2n n:Nat):Int)*9223372036854775808)=((sgnN n:Nat):Int):=by cases n <;> decide
  have hor:bits .or .u64 ((sgnN n:Nat):Int) 0=((sgnN n:Nat):Int):=by cases n <;> decide +kernel
  generalize sgn n++[(48:UInt8)]=T at *
  go_enter Tryz.func169,Tryz.ntmps169
  go_wp2_with (first
    | (go_at_call 181;refine (HS.out _).mono ?_;rintro e w ⟨rfl,rfl⟩)
    | (go_at_call 182;refine (HR.out _).mono ?_;rintro e w ⟨rfl,rfl⟩)
    | (go_at_call 174;with_reducible refine (bool2_u64 _ _).mono ?_;rintro e w1 ⟨rfl,rfl⟩)
    | simp only [f64from]
    | fail)
  go_ret3
  exact ⟨rfl,rfl⟩
theorem prefix_inf (w:World):Calls Tryz.prog 194 #[.string ⟨#[73,110,102]⟩,.string ⟨#[105,110,102,105,110,105,116,121]⟩] w fun e w'=>e=.returned (.int .i64 3)∧w'=w:=by
  go_enter Tryz.func194,Tryz.ntmps194
  go_wp2_with fail
  go_rounds 4
  go_wp2_with fail
  go_ret
  exact ⟨rfl,rfl⟩
theorem prefix_nan (w:World):Calls Tryz.prog 194 #[.string ⟨#[78,97,78]⟩,.string ⟨#[110,97,110]⟩] w fun e w'=>e=.returned (.int .i64 3)∧w'=w:=by
  go_enter Tryz.func194,Tryz.ntmps194
  go_wp2_with fail
  go_rounds 4
  go_wp2_with fail
  go_ret
  exact ⟨rfl,rfl⟩
theorem tail_inf (c:UInt8):(ByteArray.mk #[c,73,110,102]).extract 1 4=⟨#[73,110,102]⟩:=tail_bytes c [73,110,102]
theorem special_pinf (w:World):Calls Tryz.prog 181 #[.string ⟨#[43,73,110,102]⟩] w fun e w'=>e=.returned (.tuple #[.float .f64 9218868437227405312,.int .i64 4,.bool true])∧w'=w:=by
  have HP:Hid (∀ W,Calls Tryz.prog 194 #[.string ((ByteArray.mk #[43,73,110,102]).extract 1 4),.string ⟨#[105,110,102,105,110,105,116,121]⟩] W fun e w'=>e=.returned (.int .i64 3)∧w'=W):=fun W=>by
    rw [tail_inf];exact prefix_inf W
  go_enter Tryz.func181,Tryz.ntmps181
  go_wp2_with (first
    | (go_at_call 194;first | (refine (HP.out _).mono ?_;rintro e w ⟨rfl,rfl⟩) | (refine (prefix_inf _).mono ?_;rintro e w ⟨rfl,rfl⟩))
    | (go_at_call 195;refine (inf_pos _).mono ?_;rintro e w ⟨rfl,rfl⟩)
    | fail)
  go_ret3
  exact ⟨rfl,rfl⟩
theorem special_ninf (w:World):Calls Tryz.prog 181 #[.string ⟨#[45,73,110,102]⟩] w fun e w'=>e=.returned (.tuple #[.float .f64 18442240474082181120,.int .i64 4,.bool true])∧w'=w:=by
  have HP:Hid (∀ W,Calls Tryz.prog 194 #[.string ((ByteArray.mk #[45,73,110,102]).extract 1 4),.string ⟨#[105,110,102,105,110,105,116,121]⟩] W fun e w'=>e=.returned (.int .i64 3)∧w'=W):=fun W=>by
    rw [tail_inf];exact prefix_inf W
  go_enter Tryz.func181,Tryz.ntmps181
  go_wp2_with (first
    | (go_at_call 194;first | (refine (HP.out _).mono ?_;rintro e w ⟨rfl,rfl⟩) | (refine (prefix_inf _).mono ?_;rintro e w ⟨rfl,rfl⟩))
    | (go_at_call 195;refine (inf_neg _).mono ?_;rintro e w ⟨rfl,rfl⟩)
    | fail)
  go_ret3
  exact ⟨rfl,rfl⟩
theorem special_nan (w:World):Calls Tryz.prog 181 #[.string ⟨#[78,97,78]⟩] w fun e w'=>(∃ u,e=.returned (.tuple #[.float .f64 u,.int .i64 3,.bool true])∧9218868437227405312 < u∧u < 9223372036854775808)∧w'=w:=by
  go_enter Tryz.func181,Tryz.ntmps181
  go_wp2_with (first
    | (go_at_call 194;refine (prefix_nan _).mono ?_;rintro e w ⟨rfl,rfl⟩)
    | (go_at_call 196;refine (nan_any _).mono ?_;rintro e w ⟨⟨u,rfl,hu0,hu1⟩,rfl⟩)
    | fail)
  go_ret3
  exact ⟨⟨_,rfl,hu0,hu1⟩,rfl⟩
theorem atof_special (s:ByteArray) (u k:Nat) (HS:Hid (∀ W,Calls Tryz.prog 181 #[.string s] W fun e w'=>e=.returned (.tuple #[.float .f64 u,.int .i64 (k:Int),.bool true])∧w'=W)) (w:World) :
    Calls Tryz.prog 169 #[.string s] w fun e w'=>e=.returned (.tuple #[.float .f64 u,.int .i64 (k:Int),.nilIface])∧w'=w:=by
  go_enter Tryz.func169,Tryz.ntmps169
  go_wp2_with (first
    | (go_at_call 181;refine (HS.out _).mono ?_;rintro e w ⟨rfl,rfl⟩)
    | fail)
  go_ret3
  exact ⟨rfl,rfl⟩
theorem atof_nan (w:World):Calls Tryz.prog 169 #[.string ⟨#[78,97,78]⟩] w fun e w'=>(∃ u,e=.returned (.tuple #[.float .f64 u,.int .i64 3,.nilIface])∧9218868437227405312 < u∧u < 9223372036854775808)∧w'=w:=by
  go_enter Tryz.func169,Tryz.ntmps169
  go_wp2_with (first
    | (go_at_call 181;refine (special_nan _).mono ?_;rintro e w ⟨⟨u,rfl,hu0,hu1⟩,rfl⟩)
    | fail)
  go_ret3
  exact ⟨⟨_,rfl,hu0,hu1⟩,rfl⟩
def Back (x u:Nat):Prop:=(x % 9223372036854775808≤9218868437227405312→u=x)∧(9218868437227405312 < x % 9223372036854775808→9218868437227405312 < u∧u < 9223372036854775808)
def Tells (x:Nat) (k:Int) (e:Ending):Prop:=∃ u,e=.returned (.tuple #[.float .f64 u,.int .i64 k,.nilIface])∧Back x u
theorem atof_all (x:Nat) (hx:x < 18446744073709551616) (w:World) (hGl:Glob w) (hP:P10F w) (hg:7 < w.heap.size) :
    Calls Tryz.prog 169 #[.string ⟨(pText x).toArray⟩] w fun e w'=>Tells x ((pText x).length:Int) e∧Below w.heap.size w w':=by
  by_cases h0:x % 9223372036854775808=0
  · have ht:=text_zero x h0
    have hs:pText x=sgn (decide (9223372036854775808≤x))++[48]:=by
      rw [ht]
      by_cases k:9223372036854775808≤x
      · rw [if_pos k,decide_eq_true k];rfl
      · rw [if_neg k,decide_eq_false k];rfl
    rw [hs]
    refine (atof_zero _ w hGl).mono fun e w' h=>?_
    obtain ⟨rfl,rfl⟩:=h
    refine ⟨⟨_,rfl,fun _=>?_,fun k=>by omega⟩,Below.refl _ _⟩
    have:=sgn_split x hx
    rw [h0] at this
    exact this
  · by_cases h1:x % 9223372036854775808 < 9218868437227405312
    · refine (atof_x x hx h0 h1 w hGl hP hg).mono fun e w' h=>?_
      obtain ⟨rfl,hb⟩:=h
      exact ⟨⟨_,rfl,fun _=>rfl,fun k=>by omega⟩,hb⟩
    · by_cases h2:x % 9223372036854775808=9218868437227405312
      · have ht:=text_inf x h2
        by_cases k:9223372036854775808≤x
        · rw [if_pos k] at ht
          rw [ht]
          refine (atof_special ⟨#[45,73,110,102]⟩ 18442240474082181120 4 special_ninf w).mono fun e w' h=>?_
          obtain ⟨rfl,rfl⟩:=h
          exact ⟨⟨_,rfl,fun _=>by omega,fun k=>by omega⟩,Below.refl _ _⟩
        · rw [if_neg k] at ht
          rw [ht]
          refine (atof_special ⟨#[43,73,110,102]⟩ 9218868437227405312 4 special_pinf w).mono fun e w' h=>?_
          obtain ⟨rfl,rfl⟩:=h
          exact ⟨⟨_,rfl,fun _=>by omega,fun k=>by omega⟩,Below.refl _ _⟩
      · have ht:=text_nan x (by omega)
        rw [ht]
        -- whichever NaN it is,it is one and the same
        refine (atof_nan w).mono fun e w' h=>?_
        obtain ⟨⟨u,rfl,hu0,hu1⟩,rfl⟩:=h
        exact ⟨⟨_,rfl,fun k=>by omega,fun _=>⟨hu0,hu1⟩⟩,Below.refl _ _⟩
theorem prefix_l (T:List UInt8) (x:Nat) (w:World) (HA:Hid (Calls Tryz.prog 169 #[.string ⟨T.toArray⟩] w fun e w'=>Tells x (T.length:Int) e∧Below w.heap.size w w')) :
    Calls Tryz.prog 129 #[.string ⟨T.toArray⟩,.int .i64 64] w fun e w'=>Tells x (T.length:Int) e∧Below w.heap.size w w':=by
  go_enter Tryz.func129,Tryz.ntmps129
  go_wp2_with fail
  refine HA.out.mono ?_
  rintro e w1 ⟨⟨u,rfl,hu⟩,hb1⟩
  have HU:Hid _:=hu
  clear hu
  go_wp2
  go_ret3
  exact ⟨⟨_,rfl,HU.out⟩,hb1⟩
def Tells2 (x:Nat) (e:Ending):Prop:=∃ u,e=.returned (.tuple #[.float .f64 u,.nilIface])∧Back x u
theorem parse_l (T:List UInt8) (x:Nat) (w:World) (HA:Hid (Calls Tryz.prog 169 #[.string ⟨T.toArray⟩] w fun e w'=>Tells x (T.length:Int) e∧Below w.heap.size w w')) :
    Calls Tryz.prog 94 #[.string ⟨T.toArray⟩,.int .i64 64] w fun e w'=>Tells2 x e∧Below w.heap.size w w':=by
  go_enter Tryz.func94,Tryz.ntmps94
  go_wp2_with fail
  refine (prefix_l T x w HA).mono ?_
  rintro e w1 ⟨⟨u,rfl,hu⟩,hb1⟩
  have HU:Hid _:=hu
  clear hu
  go_wp2
  go_ret2
  exact ⟨⟨_,rfl,HU.out⟩,hb1⟩
theorem Parse_l (T:List UInt8) (x:Nat) (w:World) (HA:Hid (Calls Tryz.prog 169 #[.string ⟨T.toArray⟩] w fun e w'=>Tells x (T.length:Int) e∧Below w.heap.size w w')) :
    Calls Tryz.prog 72 #[.string ⟨T.toArray⟩,.int .i64 64] w fun e w'=>Tells2 x e∧Below w.heap.size w w':=by
  go_enter Tryz.func72,Tryz.ntmps72
  go_wp2_with fail
  refine (parse_l T x w HA).mono ?_
  rintro e w1 ⟨⟨u,rfl,hu⟩,hb1⟩
  have HU:Hid _:=hu
  clear hu
  go_wp2
  go_ret2
  exact ⟨⟨_,rfl,HU.out⟩,hb1⟩
theorem text_len (x:Nat):(pText x).length≤25:=by
  by_cases h:x % 9223372036854775808 < 9218868437227405312
  · exact (win_x x h).2
  · by_cases h2:x % 9223372036854775808=9218868437227405312
    · rw [text_inf x h2];split <;> decide
    · rw [text_nan x (by omega)];decide
theorem back_text (x u:Nat) (h:Back x u):pText u=pText x:=by
  by_cases k:x % 9223372036854775808≤9218868437227405312
  · rw [h.1 k]
  · obtain ⟨a,b⟩:=h.2 (by omega)
    rw [text_nan x (by omega),text_nan u (by omega)]
theorem back_lt (x u:Nat) (hx:x < 18446744073709551616) (h:Back x u):u < 18446744073709551616:=by
  by_cases k:x % 9223372036854775808≤9218868437227405312
  · rw [h.1 k];exact hx
  · have:=h.2 (by omega);omega
def Tells3 (x:Nat) (e:Ending):Prop:=∃ u,e=.returned (.tuple #[.float .f64 u,.int .i64 0])∧Back x u
theorem Parse_all (x:Nat) (hx:x < 18446744073709551616) (w:World) (hG:Glob2 w) (hP:P10F w) (hg:7 < w.heap.size) :
    Calls Tryz.prog 51 #[.string ⟨(pText x).toArray⟩] w fun e w'=>Tells3 x e∧Below w.heap.size w w':=by
  have HA:Hid _:=Parse_l (pText x) x w (atof_all x hx w hG.glob hP hg)
  have hl:((pText x).length:Int)≤25:=by have:=text_len x;omega
  have HG:Hid _:=hG
  have HT:Hid (∀ u,Back x u→pText u=pText x∧u < 18446744073709551616):=fun u h=>⟨back_text x u h,back_lt x u hx h⟩
  generalize pText x=T at *
  clear hG
  go_enter Tryz.func51,Tryz.ntmps51
  go_wp2_with fail
  refine Calls.mono HA.out ?_
  rintro e w1 ⟨⟨u,rfl,hu⟩,hb1⟩
  obtain ⟨q1,q2⟩:=HT.out u hu
  have HU:Hid _:=hu
  clear hu
  go_wp2_with fail
  refine (print_all u q2 w1 (HG.out.below hb1)).mono ?_
  rintro e w2 ⟨rfl,hb2⟩
  rw [q1]
  go_wp2
  go_ret2
  exact ⟨⟨_,rfl,HU.out⟩,hb1.trans (hb2.mono hb1.size)⟩
end Go.Proofs.YtifapjammoahgaaGreatDoor.Rl
/- special AT EVERY TEXT: it answers something. Own work of the verifier. -/
set_option maxRecDepth 100000
set_option maxHeartbeats 4000000
namespace Go.Proofs.YtifapjammoahgaaGreatDoor.Rl
open Go.RowKit Go.Sort
def TellsN (m:Nat) (e:Ending):Prop:=∃ k:Nat,e=.returned (.int .i64 (k:Int))∧k≤m
theorem prefix_any (l q:List UInt8) (hl:l.length≤25) (w:World) :
    Calls Tryz.prog 194 #[.string ⟨l.toArray⟩,.string ⟨q.toArray⟩] w fun e w'=>TellsN q.length e∧w'=w:=by
  obtain ⟨n,hn⟩:∃ n:Nat,min (q.length:Int) (l.length:Int)=(n:Int):=⟨min q.length l.length,by omega⟩
  have hn1:n≤q.length:=by omega
  have hn2:n≤l.length:=by omega
  go_enter Tryz.func194,Tryz.ntmps194
  go_wp2_with fail
  go_loopw [6,7] (fun i _ wr=>∃ j:Nat,j≤n∧i=.int .i64 (j:Int)∧wr=w) (fun i _ _=>n - (intOf i).toNat)
  case atStart=>exact ⟨0,by omega,rfl,rfl⟩
  case round =>
    obtain ⟨j,hj,rfl,rfl⟩:=hrel
    by_cases hlt:j < n
    · have hlt':(j:Int) < (n:Int):=by omega
      have hB:j < (ByteArray.mk l.toArray).size:=by show j < l.toArray.size;simp;omega
      have hQ:j < (ByteArray.mk q.toArray).size:=by show j < q.toArray.size;simp;omega
      go_wp2_with fail
      all_goals first
        | (go_ret;exact ⟨⟨_,rfl,by omega⟩,rfl⟩)
        | exact ⟨⟨j+1,by omega,by go_num,True.intro⟩,by simp [intOf];omega⟩
        | trace_state
    · obtain rfl:j=n:=by omega
      have hlt':¬ (j:Int) < (j:Int):=by omega
      go_wp2_with fail
      go_ret
      exact ⟨⟨_,rfl,by omega⟩,rfl⟩
theorem prefix_inf_any (l:List UInt8) (hl:l.length≤25) (w:World) :
    Calls Tryz.prog 194 #[.string ⟨l.toArray⟩,.string ⟨#[105,110,102,105,110,105,116,121]⟩] w fun e w'=>TellsN 8 e∧w'=w:=prefix_any l [105,110,102,105,110,105,116,121] hl w
theorem prefix_nan_any (l:List UInt8) (hl:l.length≤25) (w:World) :
    Calls Tryz.prog 194 #[.string ⟨l.toArray⟩,.string ⟨#[110,97,110]⟩] w fun e w'=>TellsN 3 e∧w'=w:=prefix_any l [110,97,110] hl w
def TellsS (e:Ending):Prop:=∃ (f k:Nat) (ok:Bool),e=.returned (.tuple #[.float .f64 f,.int .i64 (k:Int),.bool ok])∧f < 18446744073709551616∧k≤9
theorem special_any (l:List UInt8) (hl:l.length≤25) (w:World) :
    Calls Tryz.prog 181 #[.string ⟨l.toArray⟩] w fun e w'=>TellsS e∧w'=w:=by
  cases l with
  | nil =>
    go_enter Tryz.func181,Tryz.ntmps181
    go_wp2_with fail
    go_ret3
    exact ⟨⟨0,0,false,rfl,by decide,by decide⟩,rfl⟩
  | cons c r =>
    have hr:r.length≤25:=by rw [List.length_cons] at hl;omega
    have HP1:Hid (∀ W,Calls Tryz.prog 194 #[.string ((ByteArray.mk (c::r).toArray).extract 1 (r.length+1)),.string ⟨#[105,110,102,105,110,105,116,121]⟩] W fun e w'=>TellsN 8 e∧w'=W):=fun W=>by
      rw [tail_bytes];exact prefix_inf_any r hr W
    have HP2:Hid _:=fun W=>prefix_inf_any (c::r) hl W
    have HP3:Hid _:=fun W=>prefix_nan_any (c::r) hl W
    have hB:0 < (ByteArray.mk (c::r).toArray).size:=by show 0 < (c::r).toArray.size;simp
    have hbe:((ByteArray.mk (c::r).toArray)[0]'hB).toNat=c.toNat:=rfl
    by_cases c43:c.toNat=43
    · have t43:((((ByteArray.mk (c::r).toArray)[0]'hB).toNat:Int) == 43)=true:=by rw [beq_iff_eq,hbe];omega
      have t45:((((ByteArray.mk (c::r).toArray)[0]'hB).toNat:Int) == 45)=false:=by rw [beq_eq_false_iff_ne,hbe];omega
      have t105:((((ByteArray.mk (c::r).toArray)[0]'hB).toNat:Int) == 105)=false:=by rw [beq_eq_false_iff_ne,hbe];omega
      have t73:((((ByteArray.mk (c::r).toArray)[0]'hB).toNat:Int) == 73)=false:=by rw [beq_eq_false_iff_ne,hbe];omega
      have t110:((((ByteArray.mk (c::r).toArray)[0]'hB).toNat:Int) == 110)=false:=by rw [beq_eq_false_iff_ne,hbe];omega
      have t78:((((ByteArray.mk (c::r).toArray)[0]'hB).toNat:Int) == 78)=false:=by rw [beq_eq_false_iff_ne,hbe];omega
      clear hbe
      go_enter Tryz.func181,Tryz.ntmps181
      go_wp2_with fail
      refine (HP1.out _).mono ?_
      rintro e w ⟨⟨k,rfl,hk⟩,rfl⟩
      rcases (show k=3∨k=8∨(3 < k∧k < 8)∨k < 3 from by omega) with rfl | rfl | ⟨k1,k2⟩ | k1
      · as_aux_lemma =>
          go_wp2_with (first
            | (go_at_call 195;with_reducible refine (inf_pos _).mono ?_;rintro e w ⟨rfl,rfl⟩)
            | fail)
          go_ret3
          exact ⟨⟨_,4,_,rfl,by decide,by decide⟩,rfl⟩
      · as_aux_lemma =>
          go_wp2_with (first
            | (go_at_call 195;with_reducible refine (inf_pos _).mono ?_;rintro e w ⟨rfl,rfl⟩)
            | fail)
          go_ret3
          exact ⟨⟨_,9,_,rfl,by decide,by decide⟩,rfl⟩
      · have e1:3 < (k:Int):=by omega
        have e2:(k:Int) < 8:=by omega
        as_aux_lemma =>
          go_wp2_with (first
            | (go_at_call 195;with_reducible refine (inf_pos _).mono ?_;rintro e w ⟨rfl,rfl⟩)
            | fail)
          go_ret3
          exact ⟨⟨_,4,_,rfl,by decide,by decide⟩,rfl⟩
      · have e1:¬ 3 < (k:Int):=by omega
        have e3:((k:Int) == 3)=false:=by rw [beq_eq_false_iff_ne];omega
        have e8:((k:Int) == 8)=false:=by rw [beq_eq_false_iff_ne];omega
        as_aux_lemma =>
          go_wp2_with fail
          go_ret3
          exact ⟨⟨0,0,false,rfl,by decide,by decide⟩,rfl⟩
    · skip
      by_cases c45:c.toNat=45
      · have t43:((((ByteArray.mk (c::r).toArray)[0]'hB).toNat:Int) == 43)=false:=by rw [beq_eq_false_iff_ne,hbe];omega
        have t45:((((ByteArray.mk (c::r).toArray)[0]'hB).toNat:Int) == 45)=true:=by rw [beq_iff_eq,hbe];omega
        have t105:((((ByteArray.mk (c::r).toArray)[0]'hB).toNat:Int) == 105)=false:=by rw [beq_eq_false_iff_ne,hbe];omega
        have t73:((((ByteArray.mk (c::r).toArray)[0]'hB).toNat:Int) == 73)=false:=by rw [beq_eq_false_iff_ne,hbe];omega
        have t110:((((ByteArray.mk (c::r).toArray)[0]'hB).toNat:Int) == 110)=false:=by rw [beq_eq_false_iff_ne,hbe];omega
        have t78:((((ByteArray.mk (c::r).toArray)[0]'hB).toNat:Int) == 78)=false:=by rw [beq_eq_false_iff_ne,hbe];omega
        clear hbe
        go_enter Tryz.func181,Tryz.ntmps181
        go_wp2_with fail
        refine (HP1.out _).mono ?_
        rintro e w ⟨⟨k,rfl,hk⟩,rfl⟩
        rcases (show k=3∨k=8∨(3 < k∧k < 8)∨k < 3 from by omega) with rfl | rfl | ⟨k1,k2⟩ | k1
        · as_aux_lemma =>
            go_wp2_with (first
              | (go_at_call 195;with_reducible refine (inf_neg _).mono ?_;rintro e w ⟨rfl,rfl⟩)
              | fail)
            go_ret3
            exact ⟨⟨_,4,_,rfl,by decide,by decide⟩,rfl⟩
        · as_aux_lemma =>
            go_wp2_with (first
              | (go_at_call 195;with_reducible refine (inf_neg _).mono ?_;rintro e w ⟨rfl,rfl⟩)
              | fail)
            go_ret3
            exact ⟨⟨_,9,_,rfl,by decide,by decide⟩,rfl⟩
        · have e1:3 < (k:Int):=by omega
          have e2:(k:Int) < 8:=by omega
          as_aux_lemma =>
            go_wp2_with (first
              | (go_at_call 195;with_reducible refine (inf_neg _).mono ?_;rintro e w ⟨rfl,rfl⟩)
              | fail)
            go_ret3
            exact ⟨⟨_,4,_,rfl,by decide,by decide⟩,rfl⟩
        · have e1:¬ 3 < (k:Int):=by omega
          have e3:((k:Int) == 3)=false:=by rw [beq_eq_false_iff_ne];omega
          have e8:((k:Int) == 8)=false:=by rw [beq_eq_false_iff_ne];omega
          as_aux_lemma =>
            go_wp2_with fail
            go_ret3
            exact ⟨⟨0,0,false,rfl,by decide,by decide⟩,rfl⟩
      · skip
        by_cases c105:c.toNat=105
        · have t43:((((ByteArray.mk (c::r).toArray)[0]'hB).toNat:Int) == 43)=false:=by rw [beq_eq_false_iff_ne,hbe];omega
          have t45:((((ByteArray.mk (c::r).toArray)[0]'hB).toNat:Int) == 45)=false:=by rw [beq_eq_false_iff_ne,hbe];omega
          have t105:((((ByteArray.mk (c::r).toArray)[0]'hB).toNat:Int) == 105)=true:=by rw [beq_iff_eq,hbe];omega
          have t73:((((ByteArray.mk (c::r).toArray)[0]'hB).toNat:Int) == 73)=false:=by rw [beq_eq_false_iff_ne,hbe];omega
          have t110:((((ByteArray.mk (c::r).toArray)[0]'hB).toNat:Int) == 110)=false:=by rw [beq_eq_false_iff_ne,hbe];omega
          have t78:((((ByteArray.mk (c::r).toArray)[0]'hB).toNat:Int) == 78)=false:=by rw [beq_eq_false_iff_ne,hbe];omega
          clear hbe
          go_enter Tryz.func181,Tryz.ntmps181
          go_wp2_with fail
          refine (HP2.out _).mono ?_
          rintro e w ⟨⟨k,rfl,hk⟩,rfl⟩
          rcases (show k=3∨k=8∨(3 < k∧k < 8)∨k < 3 from by omega) with rfl | rfl | ⟨k1,k2⟩ | k1
          · as_aux_lemma =>
              go_wp2_with (first
                | (go_at_call 195;with_reducible refine (inf_pos _).mono ?_;rintro e w ⟨rfl,rfl⟩)
                | fail)
              go_ret3
              exact ⟨⟨_,3,_,rfl,by decide,by decide⟩,rfl⟩
          · as_aux_lemma =>
              go_wp2_with (first
                | (go_at_call 195;with_reducible refine (inf_pos _).mono ?_;rintro e w ⟨rfl,rfl⟩)
                | fail)
              go_ret3
              exact ⟨⟨_,8,_,rfl,by decide,by decide⟩,rfl⟩
          · have e1:3 < (k:Int):=by omega
            have e2:(k:Int) < 8:=by omega
            as_aux_lemma =>
              go_wp2_with (first
                | (go_at_call 195;with_reducible refine (inf_pos _).mono ?_;rintro e w ⟨rfl,rfl⟩)
                | fail)
              go_ret3
              exact ⟨⟨_,3,_,rfl,by decide,by decide⟩,rfl⟩
          · have e1:¬ 3 < (k:Int):=by omega
            have e3:((k:Int) == 3)=false:=by rw [beq_eq_false_iff_ne];omega
            have e8:((k:Int) == 8)=false:=by rw [beq_eq_false_iff_ne];omega
            as_aux_lemma =>
              go_wp2_with fail
              go_ret3
              exact ⟨⟨0,0,false,rfl,by decide,by decide⟩,rfl⟩
        · skip
          by_cases c73:c.toNat=73
          · have t43:((((ByteArray.mk (c::r).toArray)[0]'hB).toNat:Int) == 43)=false:=by rw [beq_eq_false_iff_ne,hbe];omega
            have t45:((((ByteArray.mk (c::r).toArray)[0]'hB).toNat:Int) == 45)=false:=by rw [beq_eq_false_iff_ne,hbe];omega
            have t105:((((ByteArray.mk (c::r).toArray)[0]'hB).toNat:Int) == 105)=false:=by rw [beq_eq_false_iff_ne,hbe];omega
            have t73:((((ByteArray.mk (c::r).toArray)[0]'hB).toNat:Int) == 73)=true:=by rw [beq_iff_eq,hbe];omega
            have t110:((((ByteArray.mk (c::r).toArray)[0]'hB).toNat:Int) == 110)=false:=by rw [beq_eq_false_iff_ne,hbe];omega
            have t78:((((ByteArray.mk (c::r).toArray)[0]'hB).toNat:Int) == 78)=false:=by rw [beq_eq_false_iff_ne,hbe];omega
            clear hbe
            go_enter Tryz.func181,Tryz.ntmps181
            go_wp2_with fail
            refine (HP2.out _).mono ?_
            rintro e w ⟨⟨k,rfl,hk⟩,rfl⟩
            rcases (show k=3∨k=8∨(3 < k∧k < 8)∨k < 3 from by omega) with rfl | rfl | ⟨k1,k2⟩ | k1
            · as_aux_lemma =>
                go_wp2_with (first
                  | (go_at_call 195;with_reducible refine (inf_pos _).mono ?_;rintro e w ⟨rfl,rfl⟩)
                  | fail)
                go_ret3
                exact ⟨⟨_,3,_,rfl,by decide,by decide⟩,rfl⟩
            · as_aux_lemma =>
                go_wp2_with (first
                  | (go_at_call 195;with_reducible refine (inf_pos _).mono ?_;rintro e w ⟨rfl,rfl⟩)
                  | fail)
                go_ret3
                exact ⟨⟨_,8,_,rfl,by decide,by decide⟩,rfl⟩
            · have e1:3 < (k:Int):=by omega
              have e2:(k:Int) < 8:=by omega
              as_aux_lemma =>
                go_wp2_with (first
                  | (go_at_call 195;with_reducible refine (inf_pos _).mono ?_;rintro e w ⟨rfl,rfl⟩)
                  | fail)
                go_ret3
                exact ⟨⟨_,3,_,rfl,by decide,by decide⟩,rfl⟩
            · have e1:¬ 3 < (k:Int):=by omega
              have e3:((k:Int) == 3)=false:=by rw [beq_eq_false_iff_ne];omega
              have e8:((k:Int) == 8)=false:=by rw [beq_eq_false_iff_ne];omega
              as_aux_lemma =>
                go_wp2_with fail
                go_ret3
                exact ⟨⟨0,0,false,rfl,by decide,by decide⟩,rfl⟩
          · skip
            by_cases c110:c.toNat=110
            · have t43:((((ByteArray.mk (c::r).toArray)[0]'hB).toNat:Int) == 43)=false:=by rw [beq_eq_false_iff_ne,hbe];omega
              have t45:((((ByteArray.mk (c::r).toArray)[0]'hB).toNat:Int) == 45)=false:=by rw [beq_eq_false_iff_ne,hbe];omega
              have t105:((((ByteArray.mk (c::r).toArray)[0]'hB).toNat:Int) == 105)=false:=by rw [beq_eq_false_iff_ne,hbe];omega
              have t73:((((ByteArray.mk (c::r).toArray)[0]'hB).toNat:Int) == 73)=false:=by rw [beq_eq_false_iff_ne,hbe];omega
              have t110:((((ByteArray.mk (c::r).toArray)[0]'hB).toNat:Int) == 110)=true:=by rw [beq_iff_eq,hbe];omega
              have t78:((((ByteArray.mk (c::r).toArray)[0]'hB).toNat:Int) == 78)=false:=by rw [beq_eq_false_iff_ne,hbe];omega
              clear hbe
              go_enter Tryz.func181,Tryz.ntmps181
              go_wp2_with fail
              refine (HP3.out _).mono ?_
              rintro e w ⟨⟨k,rfl,hk⟩,rfl⟩
              by_cases k3:k=3
              · subst k3
                as_aux_lemma =>
                  go_wp2_with (first
                    | (go_at_call 196;with_reducible refine (nan_any _).mono ?_;rintro e w ⟨⟨u,rfl,hu0,hu1⟩,rfl⟩)
                    | fail)
                  go_ret3
                  exact ⟨⟨_,3,_,rfl,by omega,by decide⟩,rfl⟩
              · have e3:((k:Int) == 3)=false:=by rw [beq_eq_false_iff_ne];omega
                as_aux_lemma =>
                  go_wp2_with fail
                  go_ret3
                  exact ⟨⟨0,0,false,rfl,by decide,by decide⟩,rfl⟩
            · skip
              by_cases c78:c.toNat=78
              · have t43:((((ByteArray.mk (c::r).toArray)[0]'hB).toNat:Int) == 43)=false:=by rw [beq_eq_false_iff_ne,hbe];omega
                have t45:((((ByteArray.mk (c::r).toArray)[0]'hB).toNat:Int) == 45)=false:=by rw [beq_eq_false_iff_ne,hbe];omega
                have t105:((((ByteArray.mk (c::r).toArray)[0]'hB).toNat:Int) == 105)=false:=by rw [beq_eq_false_iff_ne,hbe];omega
                have t73:((((ByteArray.mk (c::r).toArray)[0]'hB).toNat:Int) == 73)=false:=by rw [beq_eq_false_iff_ne,hbe];omega
                have t110:((((ByteArray.mk (c::r).toArray)[0]'hB).toNat:Int) == 110)=false:=by rw [beq_eq_false_iff_ne,hbe];omega
                have t78:((((ByteArray.mk (c::r).toArray)[0]'hB).toNat:Int) == 78)=true:=by rw [beq_iff_eq,hbe];omega
                clear hbe
                go_enter Tryz.func181,Tryz.ntmps181
                go_wp2_with fail
                refine (HP3.out _).mono ?_
                rintro e w ⟨⟨k,rfl,hk⟩,rfl⟩
                by_cases k3:k=3
                · subst k3
                  as_aux_lemma =>
                    go_wp2_with (first
                      | (go_at_call 196;with_reducible refine (nan_any _).mono ?_;rintro e w ⟨⟨u,rfl,hu0,hu1⟩,rfl⟩)
                      | fail)
                    go_ret3
                    exact ⟨⟨_,3,_,rfl,by omega,by decide⟩,rfl⟩
                · have e3:((k:Int) == 3)=false:=by rw [beq_eq_false_iff_ne];omega
                  as_aux_lemma =>
                    go_wp2_with fail
                    go_ret3
                    exact ⟨⟨0,0,false,rfl,by decide,by decide⟩,rfl⟩
              · skip
                have t43:((((ByteArray.mk (c::r).toArray)[0]'hB).toNat:Int) == 43)=false:=by rw [beq_eq_false_iff_ne,hbe];omega
                have t45:((((ByteArray.mk (c::r).toArray)[0]'hB).toNat:Int) == 45)=false:=by rw [beq_eq_false_iff_ne,hbe];omega
                have t105:((((ByteArray.mk (c::r).toArray)[0]'hB).toNat:Int) == 105)=false:=by rw [beq_eq_false_iff_ne,hbe];omega
                have t73:((((ByteArray.mk (c::r).toArray)[0]'hB).toNat:Int) == 73)=false:=by rw [beq_eq_false_iff_ne,hbe];omega
                have t110:((((ByteArray.mk (c::r).toArray)[0]'hB).toNat:Int) == 110)=false:=by rw [beq_eq_false_iff_ne,hbe];omega
                have t78:((((ByteArray.mk (c::r).toArray)[0]'hB).toNat:Int) == 78)=false:=by rw [beq_eq_false_iff_ne,hbe];omega
                clear hbe
                go_enter Tryz.func181,Tryz.ntmps181
                go_wp2_with fail
                go_ret3
                exact ⟨⟨0,0,false,rfl,by decide,by decide⟩,rfl⟩
end Go.Proofs.YtifapjammoahgaaGreatDoor.Rl
