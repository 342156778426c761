/- atof64exact. Own work of the verifier. -/
import Derived.Test.YtifapjammoahgaaGreatDoorSAQ
import Derived.Deep.DeepCutAuto
import Derived.Test.YtifapjammoahgaaGreatDoorSAF
set_option maxRecDepth 100000
set_option maxHeartbeats 4000000
namespace Go.Proofs.YtifapjammoahgaaGreatDoor.Rl
open Go.RowKit Go.Sort Soft
theorem ten_list:(List.range 23).all (fun k=>decide (tenW k < 9218868437227405312) && decide (uV (tenW k)=10 ^ k*UN))=true:=by decide +kernel
theorem ten_ok (k:Nat) (h:k < 23):tenW k < 9218868437227405312∧uV (tenW k)=10 ^ k*UN:=by
  have:=List.all_eq_true.1 ten_list k (List.mem_range.2 h)
  rw [Bool.and_eq_true,decide_eq_true_eq,decide_eq_true_eq] at this
  exact this
theorem near_int (d:Nat) (h:1≤d):floatOfInt .f64 (d:Int)=sw false (nrung (d*UN)):=by
  show Ieee.double.nearest (decide ((d:Int) < 0)) ((d:Int).natAbs) 0=_
  rw [decide_eq_false (by omega),Int.natAbs_natCast]
  have:=nearest_rung false d KU (by omega)
  have h0:(-1074:Int)+(KU:Int)=0:=by rw [KU_eq];decide
  rw [h0] at this
  rw [this,word_sw,UN_eq]
theorem mul_exact (s:Bool) (a b d t:Nat) (ha:a < 9218868437227405312) (hb:b < 9218868437227405312) (hda:uV a=d*UN) (hdb:uV b=t*UN) (h1:1≤d) (ht:1≤t) :
    Ieee.double.mul (sw s a) (sw false b)=some (sw s (nrung (d*t*UN))):=by
  unfold Ieee.Format.mul
  rw [read_sw s a ha,read_sw false b hb]
  show some (Ieee.double.nearest (s ^^ false) (magOf a*magOf b) (-1074+(upOf a:Int)+(-1074+(upOf b:Int))))=_
  have u1:=up_ge hda h1
  have u2:=up_ge hdb ht
  obtain ⟨c,hc⟩:∃ c:Nat,upOf a+upOf b=KU+c:=⟨upOf a+upOf b - KU,by rw [KU_eq];omega⟩
  have hp:(-1074:Int)+(upOf a:Int)+(-1074+(upOf b:Int))=-1074+(c:Int):=by rw [KU_eq] at hc;omega
  rw [hp,nearest_rung _ _ c (Nat.mul_ne_zero (by omega) (by omega)),word_sw]
  have e1:=uV_eq a
  have e2:=uV_eq b
  have e3:magOf a*magOf b*2 ^ c=d*t*UN:=by
    have hU:0 < UN:=UN_pos
    apply Nat.eq_of_mul_eq_mul_right hU
    have:magOf a*magOf b*2 ^ c*UN=magOf a*2 ^ upOf a*(magOf b*2 ^ upOf b):=by
      have:2 ^ upOf a*2 ^ upOf b=2 ^ c*UN:=by rw [← Nat.pow_add,hc,Nat.pow_add,UN_eq,Nat.mul_comm]
      generalize 2 ^ upOf a=A at *
      generalize 2 ^ upOf b=B at *
      generalize 2 ^ c=C at *
      generalize UN=U at *
      clear e1 e2 hp u1 u2 hc hda hdb
      grind
    rw [this,e1,e2,hda,hdb]
    generalize UN=U at *
    clear e1 e2 hp u1 u2 hc hda hdb this
    grind
  rw [e3]
  cases s <;> rfl
theorem over_list:uV 4831355200913801216=1000000000000000*UN∧uV 4831355200913801217≤1000000000000001*UN:=by decide +kernel
theorem over_15 (N:Nat):(1000000000000000 < N→4831355200913801217≤nrung (N*UN))∧(N≤1000000000000000→nrung (N*UN)≤4831355200913801216):=by
  constructor
  · intro h
    refine nrung_ge (by decide) (Nat.le_trans over_list.2 (Nat.mul_le_mul_right _ h))
  · intro h
    have hr:=int_rung N (by omega)
    rcases Nat.lt_or_ge 4831355200913801216 (nrung (N*UN)) with c | c
    · exfalso
      have:=uV_mono c
      rw [hr.1,over_list.1] at this
      have:=Nat.mul_le_mul_right UN h
      omega
    · exact c
def TellsF (F:Nat) (r:Ending):Prop:=∃ f ok,r=.returned (.tuple #[.float .f64 f,.bool ok])∧(ok=true→f=F)
def over (g:Nat):Bool:=FloatKind.f64.format.order g 4831355200913801216 == some .gt || FloatKind.f64.format.order g 14054727237768577024 == some .lt
theorem exact_gen (n:Bool) (d f00 f0 F:Nat) (p:Int) (hd:d < 18446744073709551616) (hp0:-1000≤p) (hp1:p≤1000) (hx:d < 4503599627370496→floatOfInt .f64 (d:Int)=f00)
    (hn0:n=false→f0=f00) (hn1:d < 4503599627370496→n=true→∀ W,(Op.unary .neg (.float .f64 f00)).run Tryz.prog W=.ok (.float .f64 f0) W)
    (h0:d < 4503599627370496→p=0→f0=F)
    (h1:∀ k:Nat,d < 4503599627370496→p=(k:Int)→0 < k→k≤22→over f0=false→floatBits .mul .f64 f0 (tenW k)=some F)
    (h2:∀ j:Nat,d < 4503599627370496→p=(j:Int)+22→0 < j→j≤15→∃ g,floatBits .mul .f64 f0 (tenW j)=some g∧(over g=false→floatBits .mul .f64 g (tenW 22)=some F))
    (h3:∀ k:Nat,d < 4503599627370496→p=-(k:Int)→0 < k→k≤22→floatBits .quo .f64 f0 (tenW k)=some F)
    (w:World) (hGl:Glob w) (hP:P10F w) :
    Calls Tryz.prog 191 #[.int .u64 (d:Int),.int .i64 p,.bool n] w fun r w'=>TellsF F r∧w'=w:=by
  obtain ⟨b,o,hb,hcell⟩:=hP
  have h52:=hGl.m52
  rcases Nat.lt_or_ge d 4503599627370496 with hlt | hge
  · have hs:((d:Int) / 4503599627370496 != 0)=false:=by rw [bne_eq_false_iff_eq];omega
    have hx':=hx hlt
    have hneg:=hn1 hlt
    have H0:Hid _:=h0 hlt
    have H1:Hid _:=fun k=>h1 k hlt
    have H2:Hid _:=fun k=>h2 k hlt
    have H3:Hid _:=fun k=>h3 k hlt
    clear hx hn1 h0 h1 h2 h3
    go_enter Tryz.func191,Tryz.ntmps191
    go_upto_if 15 with fail
    go_cut [6] from 8 (fun s W=>s=.float .f64 f0∧W=w)
    case first =>
      as_aux_lemma =>
        cases n
        · have e:=hn0 rfl
          subst e
          go_wp2_with fail
          go_meet
          exact ⟨rfl,rfl⟩
        · have hr:=hneg rfl
          go_wp2_with fail
          go_meet
          exact ⟨rfl,rfl⟩
    case rest =>
    obtain ⟨rfl,rfl⟩:=hcut
    clear hs hx' hneg hn0
    rcases Int.lt_trichotomy p 0 with hp | hp | hp
    · by_cases hp22:-22≤p
      · obtain ⟨k,rfl⟩:∃ k:Nat,p=-(k:Int):=⟨(-p).toNat,by omega⟩
        have hq:=H3.out k rfl (by omega) (by omega)
        have hd:∀ W,(binOp .quo 23 (.float .f64 f0) (.float .f64 (tenW k))).run Tryz.prog W=.ok (.float .f64 F) W:=fun W=>run_float_arith W .quo 23 .f64 _ _ _ hq
        have hc:=hcell k (by omega)
        have e0:(-(k:Int) == 0)=false:=by rw [beq_eq_false_iff_ne];omega
        have e1:¬ 0 < -(k:Int):=by omega
        clear hq hcell H0 H1 H2 H3
        as_aux_lemma =>
          go_wp2_with fail
          go_ret2
          exact ⟨⟨_,_,rfl,fun _=>rfl⟩,rfl⟩
      · have e0:(p == 0)=false:=by rw [beq_eq_false_iff_ne];omega
        have e1:¬ 0 < p:=by omega
        clear hcell H0 H1 H2 H3
        as_aux_lemma =>
          go_wp2_with fail
          go_ret2
          exact ⟨⟨_,_,rfl,fun h=>by cases h⟩,rfl⟩
    · have e:=H0.out hp
      subst hp e
      clear hcell H1 H2 H3
      as_aux_lemma =>
        go_wp2_with fail
        go_ret2
        exact ⟨⟨_,_,rfl,fun _=>rfl⟩,rfl⟩
    · have e0:(p == 0)=false:=by rw [beq_eq_false_iff_ne];omega
      by_cases hp37:p≤37
      · by_cases hp22:p≤22
        · obtain ⟨k,rfl⟩:∃ k:Nat,p=(k:Int):=⟨p.toNat,by omega⟩
          have hq:=H1.out k rfl (by omega) (by omega)
          have hc:=hcell k (by omega)
          have e2:¬ 22 < (k:Int):=by omega
          unfold over at hq
          clear hcell H0 H1 H2 H3
          generalize ho1:(FloatKind.f64.format.order f0 4831355200913801216 == some .gt)=b1 at *
          generalize ho2:(FloatKind.f64.format.order f0 14054727237768577024 == some .lt)=b2 at *
          cases b1
          · cases b2
            · have hq':=hq rfl
              have hm:∀ W,(binOp .mul 23 (.float .f64 f0) (.float .f64 (tenW k))).run Tryz.prog W=.ok (.float .f64 F) W:=fun W=>run_float_arith W .mul 23 .f64 _ _ _ hq'
              clear hq hq'
              as_aux_lemma =>
                go_wp2_with fail
                go_ret2
                exact ⟨⟨_,_,rfl,fun _=>rfl⟩,rfl⟩
            · clear hq hc
              as_aux_lemma =>
                go_wp2_with fail
                go_ret2
                exact ⟨⟨_,_,rfl,fun h=>by cases h⟩,rfl⟩
          · clear hq hc
            as_aux_lemma =>
              go_wp2_with fail
              go_ret2
              exact ⟨⟨_,_,rfl,fun h=>by cases h⟩,rfl⟩
        · obtain ⟨j,rfl⟩:∃ j:Nat,p=(j:Int)+22:=⟨(p - 22).toNat,by omega⟩
          obtain ⟨g,hg,hq⟩:=H2.out j rfl (by omega) (by omega)
          have hm1:∀ W,(binOp .mul 23 (.float .f64 f0) (.float .f64 (tenW j))).run Tryz.prog W=.ok (.float .f64 g) W:=fun W=>run_float_arith W .mul 23 .f64 _ _ _ hg
          have hc:=hcell j (by omega)
          have hc22:=hcell 22 (by omega)
          have e2:22 < (j:Int)+22:=by omega
          have e3:(j:Int)+22 - 22=(j:Int):=by omega
          unfold over at hq
          clear hcell H0 H1 H2 H3 hg
          generalize ho1:(FloatKind.f64.format.order g 4831355200913801216 == some .gt)=b1 at *
          generalize ho2:(FloatKind.f64.format.order g 14054727237768577024 == some .lt)=b2 at *
          cases b1
          · cases b2
            · have hq':=hq rfl
              have hm:∀ W,(binOp .mul 23 (.float .f64 g) (.float .f64 (tenW 22))).run Tryz.prog W=.ok (.float .f64 F) W:=fun W=>run_float_arith W .mul 23 .f64 _ _ _ hq'
              clear hq hq'
              as_aux_lemma =>
                go_wp2_with fail
                go_ret2
                exact ⟨⟨_,_,rfl,fun _=>rfl⟩,rfl⟩
            · clear hq hc22
              as_aux_lemma =>
                go_wp2_with fail
                go_ret2
                exact ⟨⟨_,_,rfl,fun h=>by cases h⟩,rfl⟩
          · clear hq hc22
            as_aux_lemma =>
              go_wp2_with fail
              go_ret2
              exact ⟨⟨_,_,rfl,fun h=>by cases h⟩,rfl⟩
      · have e1:¬ p < 0:=by omega
        clear hcell H0 H1 H2 H3
        as_aux_lemma =>
          go_wp2_with fail
          go_ret2
          exact ⟨⟨_,_,rfl,fun h=>by cases h⟩,rfl⟩
  · have hs:((d:Int) / 4503599627370496 != 0)=true:=by rw [bne_iff_ne];omega
    clear hx hn0 hn1 h0 h1 h2 h3
    as_aux_lemma =>
      go_enter Tryz.func191,Tryz.ntmps191
      go_wp2_with fail
      go_ret2
      exact ⟨⟨_,_,rfl,fun h=>by cases h⟩,rfl⟩
theorem V_tens (x j:Nat) (e p:Int) (hp:-400≤p):V (x*10 ^ j) e p=V x e (p+j):=by
  unfold V
  rw [show (p+(j:Int)+400).toNat=(p+400).toNat+j from by omega,pw_add]
  generalize pw 2 (e+1200).toNat=a
  generalize pw 10 (p+400).toNat=b
  show x*10 ^ j*a*b=x*a*(b*10 ^ j)
  grind
theorem neg_word (Y:Nat) (h:Y < 9223372036854775808):Op.negFloat .f64 Y=9223372036854775808+Y:=by
  show Y ^^^ 2 ^ 63=_
  have e:9223372036854775808+Y=2 ^ 63 ||| Y:=by
    rw [nat_join 63 (2 ^ 63) Y (Nat.mod_self _) (by rw [show (2:Nat) ^ 63=9223372036854775808 from by decide];exact h)]
  rw [e]
  apply Nat.eq_of_testBit_eq
  intro i
  rw [Nat.testBit_xor,Nat.testBit_or,Nat.testBit_two_pow]
  by_cases hi:63=i
  · subst hi
    have:Y.testBit 63=false:=Nat.testBit_lt_two_pow (by rw [show (2:Nat) ^ 63=9223372036854775808 from by decide];exact h)
    simp [this]
  · simp [hi]
theorem run_neg_float (P:Program) (Y:Nat) (h:Y < 9223372036854775808) (W:World):(Op.unary .neg (.float .f64 Y)).run P W=.ok (.float .f64 (9223372036854775808+Y)) W:=by
  rw [← neg_word Y h];rfl
theorem sw_f (a:Nat):sw false a=a:=rfl
theorem sw_t (a:Nat):sw true a=9223372036854775808+a:=rfl
theorem sr_f (a:Nat):sr false a=(a:Int):=rfl
theorem sr_t (a:Nat):sr true a=-(a:Int):=rfl
theorem fmt64:FloatKind.f64.format=Ieee.double:=rfl
theorem over_big (n:Bool) (N:Nat) (h:1000000000000000 < N):over (sw n (nrung (N*UN)))=true:=by
  have hg:=(over_15 N).1 h
  have hle:nrung (N*UN)≤9218868437227405312:=by rw [nrung_nr];omega
  generalize nrung (N*UN)=a at *
  unfold over
  rw [Bool.or_eq_true,fmt64]
  cases n
  · left
    have:=order_all false false a 4831355200913801216 hle (by decide)
    rw [sw_f 4831355200913801216,sr_f,sr_f] at this
    rw [this,beq_iff_eq,Option.some.injEq,Int.compare_eq_gt]
    omega
  · right
    have:=order_all true true a 4831355200913801216 hle (by decide)
    rw [sw_t 4831355200913801216,sr_t,sr_t,show 9223372036854775808+4831355200913801216=14054727237768577024 from by decide] at this
    rw [this,beq_iff_eq,Option.some.injEq,Int.compare_eq_lt]
    omega
theorem exact_any (n:Bool) (d M:Nat) (p E:Int) (hd:d < 18446744073709551616) (hd1:1≤d) (hp0:-1000≤p) (hp1:p≤1000) (hF:Flt M E) (hW:Within (V d 0 p) M E) (w:World) (hGl:Glob w) (hP:P10F w) :
    Calls Tryz.prog 191 #[.int .u64 (d:Int),.int .i64 p,.bool n] w fun r w'=>TellsF (sw n ((E+1074).toNat*4503599627370496+M)) r∧w'=w:=by
  have hR:=rungOf hF
  refine exact_gen n d (sw false (nrung (d*UN))) (sw n (nrung (d*UN))) _ p hd hp0 hp1 (fun _=>near_int d hd1) (fun h=>by subst h;rfl) (fun hlt h W=>?_) (fun hlt h=>?_) (fun k hlt hk k0 k1 _=>?_) (fun j hlt hj j0 j1=>?_) (fun k hlt hk k0 k1=>?_) w hGl hP
  · subst h
    have:=int_rung d (by omega)
    rw [sw_f,sw_t]
    generalize nrung (d*UN)=a at *
    exact run_neg_float _ a (by omega) W
  · subst h
    have a1:=nearest_within false d M 0 E (by omega) (by decide) hF hW
    have a2:=near_int d hd1
    have a3:floatOfInt .f64 (d:Int)=Ieee.double.nearest false d 0:=by
      show Ieee.double.nearest (decide ((d:Int) < 0)) ((d:Int).natAbs) 0=_
      rw [decide_eq_false (by omega),Int.natAbs_natCast]
    rw [a3,a1,word_sw] at a2
    rw [sw_f,sw_f] at a2
    rw [a2]
  · have hr:=int_rung d (by omega)
    have ht:=ten_ok k (by omega)
    exact mul_within n (nrung (d*UN)) (tenW k) d k M E hr.2 ht.1 hr.1 ht.2 hd1 hF (by rw [← hk];exact hW)
  · have hr:=int_rung d (by omega)
    have ht:=ten_ok j (by omega)
    refine ⟨_,mul_exact n (nrung (d*UN)) (tenW j) d (10 ^ j) hr.2 ht.1 hr.1 ht.2 hd1 (Nat.pow_pos (by decide)),fun ho=>?_⟩
    rcases Nat.lt_or_ge 1000000000000000 (d*10 ^ j) with c | c
    · rw [over_big n _ c] at ho
      cases ho
    · have hr':=int_rung (d*10 ^ j) (by omega)
      have ht':=ten_ok 22 (by decide)
      refine mul_within n (nrung (d*10 ^ j*UN)) (tenW 22) (d*10 ^ j) 22 M E hr'.2 ht'.1 hr'.1 ht'.2 (Nat.mul_pos hd1 (Nat.pow_pos (by decide))) hF ?_
      rw [V_tens _ _ _ _ (by decide),show ((22:Nat):Int)+(j:Int)=p from by omega]
      exact hW
  · have hr:=int_rung d (by omega)
    have ht:=ten_ok k (by omega)
    exact div_within n (nrung (d*UN)) (tenW k) d k M E hr.2 ht.1 hr.1 ht.2 hd1 (by omega) k1 hF (by rw [← hk];exact hW)
end Go.Proofs.YtifapjammoahgaaGreatDoor.Rl
namespace Go.Proofs.YtifapjammoahgaaGreatDoor.Rl
open Go.RowKit
def sgnN (n:Bool):Nat:=if n then 9223372036854775808 else 0
theorem sgnN_or (n:Bool) (M:Nat) (h:M < 9223372036854775808):sgnN n ||| M=sgnN n+M:=by
  cases n
  · show 0 ||| M=0+M
    rw [Nat.zero_or,Nat.zero_add]
  · have:=Nat.two_pow_add_eq_or_of_lt (i:=63) h 1
    exact this.symm
theorem bit52 (n:Bool) (M:Nat) (h:M < 9007199254740992):(sgnN n+M) &&& 4503599627370496=if M < 4503599627370496 then 0 else 4503599627370496:=by
  have e1:((sgnN n+M) &&& 4503599627370496) % 2 ^ 52=0:=by
    rw [Nat.and_mod_two_pow,show 4503599627370496 % 2 ^ 52=0 from by decide,Nat.and_zero]
  have e2:((sgnN n+M) &&& 4503599627370496) / 2 ^ 52=M / 4503599627370496:=by
    rw [← Nat.shiftRight_eq_div_pow,Nat.shiftRight_and_distrib,Nat.shiftRight_eq_div_pow,Nat.shiftRight_eq_div_pow,show 4503599627370496 / 2 ^ 52=1 from by decide,Nat.and_one_is_mod]
    unfold sgnN
    split <;> omega
  have:=Nat.div_add_mod ((sgnN n+M) &&& 4503599627370496) (2 ^ 52)
  rw [e1,e2] at this
  rw [← this]
  split <;> omega
theorem no52 (n:Bool) (r:Nat) (h:r < 4503599627370496):(sgnN n+(4503599627370496+r)) &&& (18446744073709551615 - 4503599627370496)=sgnN n+r:=by
  have e1:((sgnN n+(4503599627370496+r)) &&& (18446744073709551615 - 4503599627370496)) % 2 ^ 53=r:=by
    rw [Nat.and_mod_two_pow,show (18446744073709551615 - 4503599627370496) % 2 ^ 53=2 ^ 52 - 1 from by decide,Nat.and_two_pow_sub_one_eq_mod]
    unfold sgnN
    split <;> omega
  have e2:((sgnN n+(4503599627370496+r)) &&& (18446744073709551615 - 4503599627370496)) / 2 ^ 53=sgnN n / 2 ^ 53:=by
    rw [← Nat.shiftRight_eq_div_pow,Nat.shiftRight_and_distrib,Nat.shiftRight_eq_div_pow,Nat.shiftRight_eq_div_pow,show (18446744073709551615 - 4503599627370496) / 2 ^ 53=2 ^ 11 - 1 from by decide,Nat.and_two_pow_sub_one_eq_mod]
    unfold sgnN
    split <;> omega
  have:=Nat.div_add_mod ((sgnN n+(4503599627370496+r)) &&& (18446744073709551615 - 4503599627370496)) (2 ^ 53)
  rw [e1,e2] at this
  rw [← this]
  unfold sgnN
  split <;> omega
theorem put52 (n:Bool) (r q:Nat) (h:r < 4503599627370496) (hq:q < 2047):(sgnN n+r) ||| (q*4503599627370496)=sgnN n+(q*4503599627370496+r):=by
  have e1:=Nat.two_pow_add_eq_or_of_lt (i:=52) h q
  rw [show (2:Nat) ^ 52*q=q*4503599627370496 from by omega] at e1
  rw [← sgnN_or n r (by omega),Nat.or_assoc,Nat.or_comm r,← e1,sgnN_or n _ (by omega)]
theorem bool2_int (b:Bool) (w:World) :
    Calls Tryz.prog 152 #[.bool b] w fun e w'=>e=.returned (.int .i64 (b2n b:Nat))∧w'=w:=by
  cases b
  all_goals
    go_enter Tryz.func152,Tryz.ntmps152
    go_wp2
    go_ret
    exact ⟨rfl,rfl⟩
theorem f64from (x:Int) (w:World):(callFunc 190 #[.int .u64 x]).run Tryz.prog w=.ok (.value (.float .f64 x.toNat)) w:=by
  rw [run_callFunc_extern Tryz.func190 (by kernel_rfl) (by kernel_rfl) (by kernel_rfl) (e:=Extern.MathFloatBits.float64frombits) (by kernel_rfl)]
  rfl
theorem pack_any (n:Bool) (M:Nat) (E:Int) (hF:Flt M E) (w:World) :
    Calls Tryz.prog 199 #[.int .u64 ((sgnN n+M:Nat):Int),.int .i64 E] w fun r w'=>r=.returned (.tuple #[.float .f64 (sgnN n+((E+1074).toNat*4503599627370496+M)),.nilIface])∧w'=w:=by
  obtain ⟨hM0,hM1,hE0,hE1,hsub⟩:=hF
  have hsn:sgnN n≤9223372036854775808:=by unfold sgnN;split <;> omega
  have hb:=u64_and_nat (sgnN n+M) 4503599627370496 (by omega) (by decide)
  rw [bit52 n M hM1,show ((4503599627370496:Nat):Int)=4503599627370496 from rfl] at hb
  by_cases hM:M < 4503599627370496
  · have hE:=hsub hM
    subst hE
    rw [if_pos hM,show ((0:Nat):Int)=0 from rfl] at hb
    rw [show ((-1074:Int)+1074).toNat*4503599627370496+M=M from by omega]
    generalize sgnN n+M=X at *
    go_enter Tryz.func199,Tryz.ntmps199
    go_wp2_with (first | simp only [f64from] | fail)
    go_ret2
    exact ⟨rfl,rfl⟩
  · rw [if_neg hM] at hb
    obtain ⟨r,hr⟩:∃ r,M=4503599627370496+r:=⟨M - 4503599627370496,by omega⟩
    obtain ⟨q,hq⟩:∃ q:Nat,1075+E=(q:Int):=⟨(1075+E).toNat,by omega⟩
    have h1:=u64_andNot_nat (sgnN n+M) 4503599627370496 (by omega) (by decide)
    rw [hr,no52 n r (by omega),← hr,show ((4503599627370496:Nat):Int)=4503599627370496 from rfl] at h1
    have h2:=u64_or_nat (sgnN n+r) (q*4503599627370496) (by omega) (by omega)
    rw [put52 n r q (by omega) (by omega)] at h2
    have hE2:E < 972:=by omega
    rw [show (E+1074).toNat*4503599627370496+M=q*4503599627370496+r from by omega]
    have h3:sgnN n+(q*4503599627370496+r) < 18446744073709551616:=by omega
    generalize hZ:sgnN n+(q*4503599627370496+r)=Z at *
    generalize sgnN n+M=X at *
    generalize sgnN n+r=Y at *
    have hq4:(q:Int)*4503599627370496=((q*4503599627370496:Nat):Int):=by omega
    have hqq:(q:Int) < 2047:=by omega
    generalize hQ:q*4503599627370496=Q at *
    clear hZ hr hQ hE0 hE1
    go_enter Tryz.func199,Tryz.ntmps199
    go_wp2_with (first | simp only [f64from] | fail)
    go_ret2
    exact ⟨rfl,rfl⟩
theorem l2_bounds (p:Int) (h0:-348≤p) (h1:p≤347):-1160≤l2 p∧l2 p≤1160:=by unfold l2;omega
theorem cut_or (u:Nat) (h:u < 18446744073709551616):bits .or .u64 ((u:Int) / 2) ((u:Int) % 2)=((cut1 u:Nat):Int):=by
  have:=u64_or_nat (u / 2) (u % 2) (by omega) (by omega)
  rw [show ((u / 2:Nat):Int)=(u:Int) / 2 from by omega,show ((u % 2:Nat):Int)=(u:Int) % 2 from by omega] at this
  exact this
theorem same_or (u:Nat) (h:u < 18446744073709551616):bits .or .u64 (u:Int) ((u:Int) % 2)=(u:Int):=by
  have:=u64_or_nat u (u % 2) h (by omega)
  rw [show ((u % 2:Nat):Int)=(u:Int) % 2 from by omega] at this
  rw [this]
  have h2:u % 2=0∨u % 2=1:=by omega
  rcases h2 with k | k
  · rw [k,Nat.or_zero]
  · rw [k,or_bit];omega
theorem unmin53 (w:World):Calls Tryz.prog 153 #[.int .u64 9007199254740992] w fun e w'=>e=.returned (.int .u64 36028797018963966)∧w'=w:=unmin_any 9007199254740992 (by decide) (by decide) w
theorem round_rUp (u:Nat) (h:u < 18446744073709551600):(u+1+u / 4 % 2) % 18446744073709551616 / 4=rUp u:=by unfold rUp;rw [Nat.mod_eq_of_lt (by omega)]
theorem parse64_any (n:Bool) (d b M u:Nat) (p E e:Int) (hd:d < 18446744073709551616) (hd1:1≤d) (hb:Lib.bitLen d=b) (hb64:b≤64) (hp0:-348≤p) (hp1:p≤347) (hF:Flt M E) (he:eP b p=e)
    (hs1:-(e - (64 - (b:Int))+l2 p+3)≤63) (hs0:0≤-(e - (64 - (b:Int))+l2 p+3)) (hx:d*2 ^ (64 - b) < 18446744073709551616) (hu:scl (d*2 ^ (64 - b)) (e - (64 - (b:Int))) p=u) (hu1:u < 18446744073709551600)
    (hA:u < 36028797018963966→rUp u=M∧e=-E) (hB:36028797018963966≤u→rUp (cut1 u)=M∧e - 1=-E) (w:World) (hg:7 < w.heap.size) (hT:Pow w) :
    Calls Tryz.prog 192 #[.int .u64 (d:Int),.int .i64 p,.int .u64 ((sgnN n:Nat):Int)] w fun r w'=>r=.returned (.tuple #[.float .f64 (sgnN n+((E+1074).toNat*4503599627370496+M)),.nilIface])∧Below w.heap.size w w':=by
  obtain ⟨hl0,hl1⟩:=l2_bounds p hp0 hp1
  have hF':=hF
  obtain ⟨hM0,hM1,hE0,hE1,_⟩:=hF'
  have hsn:sgnN n≤9223372036854775808:=by unfold sgnN;split <;> omega
  have HL:Hid (∀ W,Calls Tryz.prog 108 #[.int .u64 (d:Int)] W fun r w'=>r=.returned (.int .i64 (b:Int))∧w'=W):=by
    intro W
    have h:=Tryz.bits_Len64 (d:Int) W (by omega) (by omega)
    rw [Int.toNat_natCast,hb] at h
    exact h
  have HP:Hid (∀ W,Calls Tryz.prog 199 #[.int .u64 (((sgnN n:Nat):Int)+(M:Int)),.int .i64 E] W fun r w'=>r=.returned (.tuple #[.float .f64 (sgnN n+((E+1074).toNat*4503599627370496+M)),.nilIface])∧w'=W):=fun W=>by
    have:=pack_any n M E hF W
    rw [Int.natCast_add] at this
    exact this
  have HOr:Hid (bits .or .u64 ((sgnN n:Nat):Int) (M:Int)=((sgnN n+M:Nat):Int)):=by
    have:=u64_or_nat (sgnN n) M (by omega) (by omega)
    rw [sgnN_or n M (by omega)] at this
    exact this
  have he':min 1074 (53 - (b:Int) - l2 p)=e:=by rw [← he];rfl
  obtain ⟨x,hx'⟩:∃ x,d*2 ^ (64 - b)=x:=⟨_,rfl⟩
  obtain ⟨c,hc⟩:∃ c:Nat,64 - b=c:=⟨_,rfl⟩
  have hcI:64 - (b:Int)=(c:Int):=by omega
  rw [hc] at hx'
  have hxi:(d:Int)*2 ^ c=(x:Int):=by rw [mul_cast,hx']
  rw [hc,hx'] at hu hx
  rw [hcI] at hu hs1 hs0
  have HU:Hid (∀ (g:Nat) (W:World),W.cell? ⟨g,0,none⟩=some (.int .u64 (tabHi (p+348).toNat:Int))→W.cell? ⟨g,1,none⟩=some (.int .u64 (tabLo (p+348).toNat:Int))→W.cell? ⟨g,2,none⟩=some (.int .i64 (-(e - (c:Int)+l2 p+3))) →
      Calls Tryz.prog 147 #[.int .u64 (x:Int),.pointer (some ⟨g,0,none⟩)] W fun r w'=>r=.returned (.int .u64 (u:Int))∧Below W.heap.size W w'):=by
    intro g W c0 c1 c2
    have ht:=tab_fit (p+348).toNat (by omega)
    have:=uscale_any x _ _ _ hx ht.1 ht.2 g W c0 c1 c2
    unfold scl at hu
    rw [hu] at this
    exact this
  have hee:-1074≤e+0∧e≤1074:=by
    constructor
    · rcases Nat.lt_or_ge u 36028797018963966 with k | k
      · have:=(hA k).2;omega
      · have:=(hB k).2;omega
    · omega
  obtain ⟨he0,he1⟩:=hee
  have HA:Hid _:=hA
  have HB:Hid _:=hB
  have hand:=and_one u (by omega)
  have HC:Hid _:=cut_or u (by omega)
  have HS:Hid _:=same_or u (by omega)
  clear hA hB hb he hu hx' hF
  go_enter Tryz.func192,Tryz.ntmps192
  go_wp2_with (first
    | (go_at_call 108;with_reducible refine (HL.out _).mono ?_;rintro r w ⟨rfl,rfl⟩)
    | (go_at_call 146;with_reducible refine (log2Pow10_any p (by omega) (by omega) _).mono ?_;rintro r w ⟨rfl,rfl⟩)
    | fail)
  refine (prescale_any _ (e - (c:Int)) p (l2 p) hp0 hp1 (by omega) (by omega) (by omega) (by omega) _ (by simp;omega) (pow_alloc hT hg _) (.int .u64 0) (.int .u64 0) (.int .i64 0) (by simp [go_sem]) (by simp [go_sem]) (by simp [go_sem]) (by simp [go_sem]) (by simp [go_sem]) (by simp [go_sem])).mono ?_
  rintro r w1 ⟨rfl,hw1⟩
  have hb1:Below w.heap.size w w1:=by
    rw [hw1];exact (((bel1 w _).setCell (Nat.le_refl _) _).setCell (Nat.le_refl _) _).setCell (Nat.le_refl _) _
  have hz1:w.heap.size < w1.heap.size:=by rw [hw1];simp [World.setCell]
  have c0:w1.cell? ⟨w.heap.size,0,none⟩=some (.int .u64 (tabHi (p+348).toNat:Int)):=by rw [hw1];simp [go_sem]
  have c1:w1.cell? ⟨w.heap.size,1,none⟩=some (.int .u64 (tabLo (p+348).toNat:Int)):=by rw [hw1];simp [go_sem]
  have c2:w1.cell? ⟨w.heap.size,2,none⟩=some (.int .i64 (-(e - (c:Int)+l2 p+3))):=by rw [hw1];simp [go_sem]
  clear hw1
  obtain ⟨sv,hsv⟩:∃ sv:Int,sv=-(e - (c:Int)+l2 p+3):=⟨_,rfl⟩
  have HU1:Hid (Calls Tryz.prog 147 #[.int .u64 (x:Int),.pointer (some ⟨w.heap.size,0,none⟩)] w1 fun r w'=>r=.returned (.int .u64 (u:Int))∧Below w1.heap.size w1 w'):=HU.out _ w1 c0 c1 c2
  rw [← hsv] at hs1 hs0 c2
  have hs64:¬ 64≤sv:=by omega
  clear c0 c1 HU hsv
  go_wp2_with fail
  refine Calls.mono HU1.out ?_
  rintro r w2 ⟨rfl,hb2⟩
  have hb:Below w.heap.size w w2:=hb1.trans (hb2.mono hb1.size)
  clear c2 hs64 HU1
  have hc1:cut1 u≤u:=by rw [cut1_val];split <;> omega
  rcases Nat.lt_or_ge u 36028797018963966 with hk | hk
  · obtain ⟨q1,q2⟩:=HA.out hk
    have HB2:Hid (∀ W,Calls Tryz.prog 152 #[.bool (decide ((36028797018963966:Int)≤(u:Int)))] W fun r w'=>r=.returned (.int .i64 0)∧w'=W):=by
      intro W
      rw [decide_eq_false (by omega)]
      exact bool2_int _ W
    have hE':-e=E:=by omega
    have hR:=round_any u (by omega)
    rw [round_rUp u (by omega),q1] at hR
    have HR:Hid _:=hR
    have hS:=HS.out
    have hO:=HOr.out
    clear hR HA HB HC HS HOr q1
    go_wp2_with (first
      | (go_at_call 153;with_reducible refine (unmin53 _).mono ?_;rintro r w2 ⟨rfl,rfl⟩)
      | (go_at_call 152;with_reducible refine (HB2.out _).mono ?_;rintro r w2 ⟨rfl,rfl⟩)
      | (go_at_call 151;with_reducible refine (HR.out _).mono ?_;rintro r w2 ⟨rfl,rfl⟩)
      | fail)
    refine (HP.out _).mono ?_
    rintro r w3 ⟨rfl,rfl⟩
    go_wp2_with fail
    go_ret2
    exact ⟨rfl,hb⟩
  · obtain ⟨q1,q2⟩:=HB.out hk
    have HB2:Hid (∀ W,Calls Tryz.prog 152 #[.bool (decide ((36028797018963966:Int)≤(u:Int)))] W fun r w'=>r=.returned (.int .i64 1)∧w'=W):=by
      intro W
      rw [decide_eq_true (by omega)]
      exact bool2_int _ W
    have hE':-(e - 1)=E:=by omega
    have hR:=round_any (cut1 u) (by omega)
    rw [round_rUp (cut1 u) (by omega),q1] at hR
    have HR:Hid _:=hR
    have hS:=HC.out
    have hO:=HOr.out
    generalize cut1 u=v at *
    clear hR HA HB HC HS HOr q1
    go_wp2_with (first
      | (go_at_call 153;with_reducible refine (unmin53 _).mono ?_;rintro r w2 ⟨rfl,rfl⟩)
      | (go_at_call 152;with_reducible refine (HB2.out _).mono ?_;rintro r w2 ⟨rfl,rfl⟩)
      | (go_at_call 151;with_reducible refine (HR.out _).mono ?_;rintro r w2 ⟨rfl,rfl⟩)
      | fail)
    refine (HP.out _).mono ?_
    rintro r w3 ⟨rfl,rfl⟩
    go_wp2_with fail
    go_ret2
    exact ⟨rfl,hb⟩
end Go.Proofs.YtifapjammoahgaaGreatDoor.Rl
