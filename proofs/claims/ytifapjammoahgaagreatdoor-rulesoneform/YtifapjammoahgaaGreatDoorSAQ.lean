/- WHAT IS PRINTED LIES WITHIN THE INTERVAL OF THE FLOAT, for every float that is finite and not 0. Own work of the verifier. -/
import Derived.Test.YtifapjammoahgaaGreatDoorSAF
import Derived.Test.YtifapjammoahgaaGreatDoorSAE
import Derived.Test.YtifapjammoahgaaGreatDoorSAN
import Derived.Test.YtifapjammoahgaaGreatDoorSAO
set_option maxHeartbeats 1000000
namespace Go.Proofs.YtifapjammoahgaaGreatDoor.Rl
theorem s_norm (e:Int) (h0:-1085≤e) (h1:e≤1000):5≤-(e+l2 (-(l10 (e+11)))+3)∧-(e+l2 (-(l10 (e+11)))+3)≤63:=by
  have h:(List.range 2086).all (fun i=>decide (5≤-((i:Int) - 1085+l2 (-(l10 ((i:Int) - 1085+11)))+3)) && decide (-((i:Int) - 1085+l2 (-(l10 ((i:Int) - 1085+11)))+3)≤63))=true:=by decide +kernel
  have:=List.all_eq_true.1 h (e+1085).toNat (List.mem_range.2 (by omega))
  rw [show (((e+1085).toNat:Nat):Int) - 1085=e from by omega] at this
  simpa using this
theorem s_sub (e:Int) (h0:-1137≤e) (h1:e≤-1086):5≤-(e+l2 (-(l10 (-1074)))+3)∧-(e+l2 (-(l10 (-1074)))+3)≤63:=by
  rw [show l2 (-(l10 (-1074)))=1076 from by decide]
  omega
theorem norm_in (f:Nat) (e:Int) (hf0:4503599627370496≤f) (hf1:f < 9007199254740992) (hf:f≠4503599627370496∨e=-1085) (he0:-1085≤e) (he1:e≤1000) :
    Within (V (shortF (f*2048) e).1 0 (shortF (f*2048) e).2) f (e+11):=by
  rw [short_norm f e hf he0]
  obtain ⟨s0,s1⟩:=s_norm e he0 he1
  have w:=pick_within f 11 (f % 2) e (-(l10 (e+11))) (by omega) (by decide) rfl (by omega) (by omega) (ok_norm e he0 he1).1 s0 s1 (by omega) (fun h=>by omega)
  refine w ?_
  rw [show f*2 ^ 11 - 2 ^ (11 - 1)=f*2048 - 1024 from by omega,show f*2 ^ 11+2 ^ (11 - 1)=f*2048+1024 from by omega,show f*2 ^ 11=f*2048 from by omega]
  by_cases h11:e=-11
  · subst h11
    have k:=pick_eleven f (f % 2) hf0 hf1 (by omega)
    rw [show -(l10 (-11+11))=0 from by decide]
    omega
  · have k:=pick_sym (f*2048) 1024 (f % 2) e (-(l10 (e+11))) (by omega) (by omega) (by omega) (by omega) (ok_norm e he0 he1).1 (wide_norm e he0 he1 h11)
    exact ⟨k.1,k.2.1⟩
theorem sub_in (f z:Nat) (hf:1≤f) (hz0:12≤z) (hz1:z≤63) (h0:9223372036854775808≤f*2 ^ z) (h1:f*2 ^ z+2 ^ (z - 1) < 18446744073709551616) (hx:f < 4503599627370496) :
    Within (V (shortF (f*2 ^ z) (-1074 - (z:Int))).1 0 (shortF (f*2 ^ z) (-1074 - (z:Int))).2) f (-1074):=by
  rw [short_low f z hz0]
  obtain ⟨s0,s1⟩:=s_sub (-1074 - (z:Int)) (by omega) (by omega)
  have hg:2 ^ (z - 1)≤2 ^ 62:=Nat.pow_le_pow_right (by decide) (by omega)
  have h62:(2:Nat) ^ 62=4611686018427387904:=by decide
  have w:=pick_within f z (f % 2) (-1074 - (z:Int)) (-(l10 (-1074))) hf (by omega) rfl (by omega) h1 (ok_sub _ (by omega) (by omega)) s0 s1 (by omega) (fun h=>by omega)
  rw [show -1074 - (z:Int)+(z:Int)=-1074 from by omega] at w
  refine w ?_
  have k:=pick_sym (f*2 ^ z) (2 ^ (z - 1)) (f % 2) (-1074 - (z:Int)) (-(l10 (-1074))) (by omega) (by omega) h1 (by omega) (ok_sub _ (by omega) (by omega)) (by
    have:=wide_sub (-1074 - (z:Int)) (by omega) (by omega)
    rw [show (-1075 - (-1074 - (z:Int))).toNat=z - 1 from by omega] at this
    exact this)
  exact ⟨k.1,k.2.1⟩
def inTwo (r:Nat × Int) (e:Int):Bool:=decide (V 18014398509481983 (e+9) 0≤V r.1 0 r.2) && decide (V r.1 0 r.2≤V 9007199254740993 (e+10) 0)
theorem two_ok (e:Int) (h0:-1084≤e) (h1:e≤960):inTwo (shortF 9223372036854775808 e) e=true:=by
  have h:(List.range 2045).all (fun i=>inTwo (shortF 9223372036854775808 ((i:Int) - 1084)) ((i:Int) - 1084))=true:=by decide +kernel
  have:=List.all_eq_true.1 h (e+1084).toNat (List.mem_range.2 (by omega))
  rw [show (((e+1084).toNat:Nat):Int) - 1084=e from by omega] at this
  exact this
theorem two_in (e:Int) (h0:-1084≤e) (h1:e≤960):Within (V (shortF 9223372036854775808 e).1 0 (shortF 9223372036854775808 e).2) 4503599627370496 (e+11):=by
  have h:=two_ok e h0 h1
  unfold inTwo at h
  rw [Bool.and_eq_true,decide_eq_true_eq,decide_eq_true_eq] at h
  obtain ⟨a,b⟩:=h
  have c:V 9007199254740991 (e+11 - 1) 0≤V 18014398509481983 (e+9) 0:=by
    have:=V_two 9007199254740991 1 (e+9) 0 (by omega)
    rw [show e+9+((1:Nat):Int)=e+11 - 1 from by omega] at this
    rw [← this]
    exact (V_mono _ _).2 (by decide)
  refine ⟨Nat.le_trans c a,?_,fun h=>absurd h (by decide),fun _ _=>?_⟩
  · rw [show e+11 - 1=e+10 from by omega]
    exact b
  · rw [show e+11 - 2=e+9 from by omega]
    exact a
def mOf (a:Nat):Nat:=if a < 4503599627370496 then a else 4503599627370496+a % 4503599627370496
def xOf (a:Nat):Int:=if a < 4503599627370496 then -1074 else (a / 4503599627370496:Nat) - 1075
theorem sd_in (a:Nat) (h0:1≤a) (h1:a < 9218868437227405312):Within (V (sd a).1 0 (sd a).2) (mOf a) (xOf a):=by
  unfold mOf xOf
  by_cases h:a < 4503599627370496
  · rw [if_pos h,if_pos h,sd_low a h]
    obtain ⟨z,hz,hz',z0,z1,z2,z3,_,z5⟩:=sub_bits a h0 h
    rw [hz]
    exact sub_in a z h0 z0 z1 z2 z5 h
  · rw [if_neg h,if_neg h,sd_norm a (by omega) h1]
    have hq:a / 4503599627370496 < 2047:=by omega
    have hq1:1≤a / 4503599627370496:=by omega
    have hr:a % 4503599627370496 < 4503599627370496:=Nat.mod_lt _ (by decide)
    generalize a / 4503599627370496=q at *
    generalize a % 4503599627370496=r at *
    rw [show ((q:Nat):Int) - 1075=(q:Int) - 1086+11 from by omega]
    by_cases hn:r=0∧q≠1
    · rw [hn.1]
      exact two_in _ (by omega) (by omega)
    · exact norm_in _ _ (by omega) (by omega) (by omega) (by omega) (by omega)
end Go.Proofs.YtifapjammoahgaaGreatDoor.Rl
namespace Go.Proofs.YtifapjammoahgaaGreatDoor.Soft
def Rep (N:Nat):Prop:=∃ m k,N=m*2 ^ k∧m < 9007199254740992
theorem two_pow_52:(2:Nat) ^ 52=4503599627370496:=by decide
theorem two_pow_53:(2:Nat) ^ 53=9007199254740992:=by decide
def TOP:Nat:=uV 9218868437227405312
theorem top_le {D:Nat} (h:2046≤D):TOP≤2 ^ (52+D):=by
  unfold TOP uV
  rw [if_neg (by decide)]
  have hE:9218868437227405312 / 4503599627370496 - 1=2046:=by decide
  have hF:4503599627370496+9218868437227405312 % 4503599627370496=4503599627370496:=by decide
  rw [hF]
  generalize 9218868437227405312 / 4503599627370496 - 1=E at *
  rw [Nat.pow_add,two_pow_52]
  exact Nat.mul_le_mul_left _ (Nat.pow_le_pow_right (by decide) (by omega))
theorem nr_rep {N:Nat} (h:Rep N):uV (nr N)=N∧(N < TOP→nr N < 9218868437227405312):=by
  by_cases hs:N < 9007199254740992
  · have e:nr N=N:=by unfold nr;rw [if_pos hs]
    rw [e]
    refine ⟨?_,fun _=>by omega⟩
    unfold uV
    by_cases h1:N < 4503599627370496
    · rw [if_pos h1]
    · rw [if_neg h1,show N / 4503599627370496 - 1=0 from by omega];omega
  · obtain ⟨m,k,rfl,hm⟩:=h
    have hN:m*2 ^ k≠0:=by omega
    have hlo:=Nat.log2_self_le hN
    have hhi:=Nat.lt_log2_self (n:=m*2 ^ k)
    have hL:53≤(m*2 ^ k).log2:=(Nat.le_log2 hN).2 (by rw [two_pow_53];omega)
    obtain ⟨D,hD⟩:∃ D,(m*2 ^ k).log2=52+D:=⟨(m*2 ^ k).log2 - 52,by omega⟩
    have hDk:D≤k:=by
      rcases Nat.lt_or_ge k D with c | c
      · exfalso
        have h1:m*2 ^ k < 2 ^ 53*2 ^ k:=Nat.mul_lt_mul_of_pos_right (by rw [two_pow_53];exact hm) (pow_pos' k)
        rw [← Nat.pow_add] at h1
        have h2:2 ^ (53+k)≤2 ^ (52+D):=Nat.pow_le_pow_right (by decide) (by omega)
        rw [hD] at hlo
        omega
      · exact c
    have hq:m*2 ^ k=m*2 ^ (k - D)*2 ^ D:=by rw [Nat.mul_assoc,← Nat.pow_add,show k - D+D=k from by omega]
    have e1:rne (m*2 ^ k) D=m*2 ^ (k - D):=rne_mul m k D hDk
    have hp:=pow_pos' D
    rw [hD] at hlo hhi
    rw [hq] at hlo hhi
    have hlo':4503599627370496≤m*2 ^ (k - D):=by
      rw [Nat.pow_add,two_pow_52] at hlo
      exact Nat.le_of_mul_le_mul_right hlo hp
    have hhi':m*2 ^ (k - D) < 9007199254740992:=by
      rw [show 52+D+1=53+D from by omega,Nat.pow_add,two_pow_53] at hhi
      exact Nat.lt_of_mul_lt_mul_right hhi
    have e2:nr (m*2 ^ k)=D*4503599627370496+m*2 ^ (k - D):=by
      unfold nr;rw [if_neg hs,hD,show 52+D - 52=D from by omega,e1]
    rw [e2]
    generalize m*2 ^ (k - D)=q at *
    refine ⟨?_,?_⟩
    · unfold uV
      rw [if_neg (by omega),show (D*4503599627370496+q) / 4503599627370496 - 1=D from by omega,show 4503599627370496+(D*4503599627370496+q) % 4503599627370496=q from by omega,hq]
    · intro hlt
      have:D < 2046:=by
        rcases Nat.lt_or_ge D 2046 with c | c
        · exact c
        · exfalso
          have h1:=top_le c
          rw [← hq] at hlo
          omega
      omega
theorem nrung_rep {N:Nat} (h:Rep N) (hN:N < TOP):uV (nrung N)=N∧nrung N < 9218868437227405312:=by
  obtain ⟨h1,h2⟩:=nr_rep h
  have h3:=h2 hN
  rw [nrung_nr,Nat.min_eq_left (by omega)]
  exact ⟨h1,h3⟩
theorem top_ge {D:Nat} (h:D≤2046):2 ^ (52+D)≤TOP:=by
  unfold TOP uV
  rw [if_neg (by decide)]
  have hE:9218868437227405312 / 4503599627370496 - 1=2046:=by decide
  have hF:4503599627370496+9218868437227405312 % 4503599627370496=4503599627370496:=by decide
  rw [hF]
  generalize 9218868437227405312 / 4503599627370496 - 1=E at *
  rw [Nat.pow_add,two_pow_52]
  exact Nat.mul_le_mul_left _ (Nat.pow_le_pow_right (by decide) (by omega))
def KU:Nat:=1074
theorem KU_eq:KU=1074:=rfl
def UN:Nat:=2 ^ KU
theorem UN_pos:0 < UN:=pow_pos' KU
theorem UN_eq:UN=2 ^ KU:=rfl
theorem rep_pow {m K:Nat} (h:m≤9007199254740992) (hK:K≤2000):Rep (m*2 ^ K)∧m*2 ^ K < TOP:=by
  constructor
  · rcases Nat.lt_or_eq_of_le h with c | c
    · exact ⟨m,K,rfl,c⟩
    · refine ⟨4503599627370496,K+1,?_,by decide⟩
      rw [c,Nat.pow_succ]
      generalize 2 ^ K=q
      omega
  · have h1:m*2 ^ K≤2 ^ 53*2 ^ K:=Nat.mul_le_mul_right _ (by rw [two_pow_53];exact h)
    rw [← Nat.pow_add] at h1
    have h3:2 ^ (53+K) < 2 ^ (52+(K+2)):=Nat.pow_lt_pow_right (by decide) (by omega)
    have h4:=top_ge (D:=K+2) (by omega)
    omega
theorem rep_unit {m:Nat} (h:m≤9007199254740992):Rep (m*UN)∧m*UN < TOP:=by
  rw [UN_eq]
  exact rep_pow h (by rw [KU_eq];decide)
theorem nrung_ge {a N:Nat} (ha:a≤9218868437227405312) (h:uV a≤N):a≤nrung N:=by
  have e:=uV_eq a
  have hm:=mag_lt a
  have ea:a=upOf a*4503599627370496+magOf a:=by
    unfold upOf magOf
    split <;> omega
  unfold nrung
  split
  · rename_i hs
    have:upOf a=0:=by
      rcases Nat.eq_zero_or_pos (upOf a) with c | c
      · exact c
      · exfalso
        have h1:=mag_norm c
        have h2:2 ^ 1≤2 ^ upOf a:=Nat.pow_le_pow_right (by decide) c
        have:=Nat.mul_le_mul h1 h2
        omega
    rw [this,Nat.pow_zero] at e
    rw [this] at ea
    omega
  · rename_i hs
    have hN:N≠0:=by omega
    have hhi:=Nat.lt_log2_self (n:=N)
    have hlo:=Nat.log2_self_le hN
    have hL:53≤N.log2:=(Nat.le_log2 hN).2 (by rw [two_pow_53];omega)
    obtain ⟨D,hD⟩:∃ D,N.log2=52+D:=⟨N.log2 - 52,by omega⟩
    rw [hD,show 52+D - 52=D from by omega]
    rw [hD] at hhi hlo
    have hr:N / 2 ^ D≤rne N D:=by unfold rne;omega
    have hq:4503599627370496≤N / 2 ^ D:=by
      rw [Nat.le_div_iff_mul_le (pow_pos' D)]
      rw [Nat.pow_add,two_pow_52] at hlo
      exact hlo
    refine Nat.le_min.2 ⟨?_,ha⟩
    rcases Nat.lt_trichotomy (upOf a) D with c | c | c
    · have:(upOf a+1)*4503599627370496≤D*4503599627370496:=Nat.mul_le_mul_right _ c
      omega
    · have:magOf a≤N / 2 ^ D:=by
        rw [Nat.le_div_iff_mul_le (pow_pos' D),← c,e]
        exact h
      rw [c] at ea
      omega
    · exfalso
      have h1:=mag_norm (show 0 < upOf a by omega)
      have h2:2 ^ (D+1)≤2 ^ upOf a:=Nat.pow_le_pow_right (by decide) c
      have h3:=Nat.mul_le_mul h1 h2
      rw [e] at h3
      rw [show 52+D+1=D+1+52 from by omega,Nat.pow_add 2 (D+1) 52,two_pow_52,Nat.mul_comm] at hhi
      omega
end Go.Proofs.YtifapjammoahgaaGreatDoor.Soft
namespace Go.Proofs.YtifapjammoahgaaGreatDoor.Rl
open Soft
theorem rne_of (N M P:Nat) (j:Nat) (hP:P=2 ^ j) (hj:1≤j) (h1:(2*M - 1)*P≤2*N) (h2:2*N≤(2*M+1)*P) (hM:1≤M) (h3:M % 2=1→¬ 2*N≤(2*M - 1)*P∧¬ (2*M+1)*P≤2*N):rne N j=M:=by
  unfold rne
  rw [← hP]
  have hp:0 < P:=by rw [hP];exact Nat.pow_pos (by decide)
  have hpe:P % 2=0:=by rw [hP,show j=j - 1+1 from by omega,Nat.pow_succ];omega
  have hN:=Nat.div_add_mod N P
  have hr:=Nat.mod_lt N hp
  generalize hq:N / P=q at *
  generalize N % P=r at *
  have e1:(2*M - 1)*P+P=2*(P*M):=by
    obtain ⟨m,rfl⟩:∃ m,M=m+1:=⟨M - 1,by omega⟩
    rw [show 2*(m+1) - 1=2*m+1 from by omega]
    grind
  have e2:(2*M+1)*P=2*(P*M)+P:=by grind
  have d1:P*q+r=N:=hN
  -- q is M or M - 1
  have hqM:q=M∨q+1=M:=by
    rcases Nat.lt_trichotomy q M with h | h | h
    · rcases Nat.lt_or_ge (q+1) M with h' | h'
      · exfalso
        have:=Nat.mul_le_mul_left P (show q+2≤M from h')
        rw [Nat.mul_add] at this
        omega
      · omega
    · exact Or.inl h
    · exfalso
      have:=Nat.mul_le_mul_left P (show M+1≤q from h)
      rw [Nat.mul_add] at this
      omega
  rcases hqM with h | h
  · subst h
    rw [if_neg]
    · rfl
    · intro c
      rcases c with c | ⟨c,c'⟩
      · omega
      · have:=(h3 c').2
        omega
  · subst h
    have mq:P*(q+1)=P*q+P:=Nat.mul_succ P q
    rw [if_pos]
    rcases Nat.lt_or_ge P (2*r) with c | c
    · exact Or.inl c
    · refine Or.inr ⟨by omega,?_⟩
      rcases Nat.mod_two_eq_zero_or_one q with c' | c'
      · exfalso
        have:=(h3 (by omega)).1
        omega
      · exact c'
theorem nrung_of (N M k:Nat) (hM1:1≤M) (hM2:M < 9007199254740992) (hk:M < 4503599627370496→k=0) (h1:(2*M - 1)*2 ^ k≤2*N) (h2:2*N≤(2*M+1)*2 ^ k)
    (h3:M % 2=1→¬ 2*N≤(2*M - 1)*2 ^ k∧¬ (2*M+1)*2 ^ k≤2*N) (h4:M=4503599627370496→0 < k→(4*M - 1)*2 ^ k≤4*N) (hinf:k*4503599627370496+M < 9218868437227405312):nrung N=k*4503599627370496+M:=by
  unfold nrung
  rcases Nat.eq_zero_or_pos k with hk0 | hk0
  · subst hk0
    rw [Nat.pow_zero,Nat.mul_one] at h1 h2
    rw [if_pos (by omega)]
    omega
  · have hMn:4503599627370496≤M:=by
      rcases Nat.lt_or_ge M 4503599627370496 with h | h
      · have:=hk h;omega
      · exact h
    have hP2:2≤2 ^ k:=by
      have:2 ^ 1≤2 ^ k:=Nat.pow_le_pow_right (by decide) hk0
      omega
    have hbig:¬ N < 9007199254740992:=by
      intro c
      by_cases h:M=4503599627370496
      · have:=h4 h hk0
        have:=Nat.mul_le_mul (show 18014398509481983≤4*M - 1 from by omega) hP2
        omega
      · have:=Nat.mul_le_mul (show 9007199254740993≤2*M - 1 from by omega) hP2
        omega
    rw [if_neg hbig]
    have hup:N < 2 ^ (k+53):=by
      have:=Nat.mul_le_mul_right (2 ^ k) (show 2*M+1≤18014398509481983 from by omega)
      rw [Nat.pow_add,show (2:Nat) ^ 53=9007199254740992 from by decide]
      generalize 2 ^ k=P at *
      omega
    have hlo:2 ^ (k+51)≤N:=by
      have:=Nat.mul_le_mul_right (2 ^ k) (show 4503599627370496≤2*M - 1 from by omega)
      rw [Nat.pow_add,show (2:Nat) ^ 51=2251799813685248 from by decide]
      generalize 2 ^ k=P at *
      omega
    by_cases hb:2 ^ (k+52)≤N
    · rw [log2_of N (k+52) hb (by rw [show k+52+1=k+53 from by omega];exact hup),show k+52 - 52=k from by omega,rne_of N M (2 ^ k) k rfl hk0 h1 h2 hM1 h3]
      omega
    · have hbin:M=4503599627370496:=by
        rcases Nat.lt_or_ge 4503599627370496 M with h | h
        · exfalso
          apply hb
          have:=Nat.mul_le_mul_right (2 ^ k) (show 9007199254740992≤2*M - 1 from by omega)
          rw [Nat.pow_add,show (2:Nat) ^ 52=4503599627370496 from by decide]
          generalize 2 ^ k=P at *
          omega
        · omega
      have h4':=h4 hbin hk0
      subst hbin
      rw [Nat.pow_add,show (2:Nat) ^ 52=4503599627370496 from by decide] at hb
      rw [log2_of N (k+51) hlo (by rw [show k+51+1=k+52 from by omega,Nat.pow_add,show (2:Nat) ^ 52=4503599627370496 from by decide];omega),show k+51 - 52=k - 1 from by omega]
      have hp:2 ^ k=2*2 ^ (k - 1):=by rw [show k=k - 1+1 from by omega,Nat.pow_succ];simp;omega
      rw [hp] at h4' hb
      have hone:0 < 2 ^ (k - 1):=Nat.pow_pos (by decide)
      have hr:rne N (k - 1)=9007199254740992:=by
        rcases Nat.eq_zero_or_pos (k - 1) with hz | hz
        · rw [hz,Nat.pow_zero] at h4' hb
          omega
        · refine rne_of N 9007199254740992 (2 ^ (k - 1)) (k - 1) rfl hz ?_ ?_ (by decide) (fun h=>absurd h (by decide))
          · generalize 2 ^ (k - 1)=P at *
            omega
          · generalize 2 ^ (k - 1)=P at *
            omega
      rw [hr]
      have:(k - 1)*4503599627370496+9007199254740992=k*4503599627370496+4503599627370496:=by
        obtain ⟨j,rfl⟩:∃ j,k=j+1:=⟨k - 1,by omega⟩
        rw [Nat.add_sub_cancel]
        omega
      rw [this]
      exact Nat.min_eq_left (by omega)
theorem nearest_within (neg:Bool) (mag M:Nat) (place E:Int) (hm:mag≠0) (hp0:-1074≤place) (hF:Flt M E) (hW:Within (V mag place 0) M E) :
    Ieee.double.nearest neg mag place=Ieee.double.word neg ((E+1074).toNat*4503599627370496+M):=by
  obtain ⟨hM0,hM1,hE0,hE1,hsub⟩:=hF
  have hinf:(E+1074).toNat*4503599627370496+M < 9218868437227405312:=by omega
  obtain ⟨w1,w2,w3,w4⟩:=hW
  obtain ⟨c,hc⟩:∃ c:Nat,place=-1074+(c:Int):=⟨(place+1074).toNat,by omega⟩
  obtain ⟨k,hk⟩:∃ k:Nat,E=-1074+(k:Int):=⟨(E+1074).toNat,by omega⟩
  subst hc hk
  rw [nearest_rung neg mag c hm]
  have hN:V mag (-1074+(c:Int)) 0=V (mag*2 ^ c) (-1074) 0:=(V_two mag c (-1074) 0 (by decide)).symm
  rw [hN] at w1 w2 w3 w4
  generalize mag*2 ^ c=N at *
  have f1:∀ x,V x (-1074+(k:Int) - 1) 0=V (x*2 ^ k) (-1075) 0:=fun x=>by rw [V_two x k (-1075) 0 (by decide)];congr 1;omega
  have f2:∀ x,V x (-1074+(k:Int) - 2) 0=V (x*2 ^ k) (-1076) 0:=fun x=>by rw [V_two x k (-1076) 0 (by decide)];congr 1;omega
  have g1:V N (-1074) 0=V (2*N) (-1075) 0:=by have:=V_two N 1 (-1075) 0 (by decide);rw [show N*2 ^ 1=2*N from by omega] at this;exact this.symm
  have g2:V N (-1074) 0=V (4*N) (-1076) 0:=by have:=V_two N 2 (-1076) 0 (by decide);rw [show N*2 ^ 2=4*N from by omega] at this;exact this.symm
  rw [show (-1074+(k:Int)+1074).toNat=k from by omega] at hinf ⊢
  rw [nrung_of N M k hM0 hM1 (fun h=>by have:=hsub h;omega) (by rw [f1,g1,V_mono] at w1;exact w1) (by rw [f1,g1,V_mono] at w2;exact w2) (fun h=>by
      have:=w3 h
      rw [f1,f1,g1,V_mono,V_mono] at this
      exact this) (fun h h'=>by
      have:=w4 h (by omega)
      rw [f2,g2,V_mono] at this
      exact this) hinf]
theorem unit_V (d:Nat):V (d*UN) (-1074) 0=V d 0 0:=by
  rw [UN_eq,V_two d KU (-1074) 0 (by decide),KU_eq]
  rfl
theorem rung_V (a d:Nat) (hd:uV a=d*UN):V (magOf a) (-1074+(upOf a:Int)) 0=V d 0 0:=by
  rw [← V_two _ _ _ _ (by decide),uV_eq,hd,unit_V]
theorem int_rung (d:Nat) (h:d≤9007199254740992):uV (nrung (d*UN))=d*UN∧nrung (d*UN) < 9218868437227405312:=nrung_rep (rep_unit h).1 (rep_unit h).2
theorem up_ge {a d:Nat} (hd:uV a=d*UN) (h1:1≤d):1022≤upOf a∧4503599627370496≤magOf a:=by
  have e:=uV_eq a
  have hm:=mag_lt a
  have h2:2 ^ KU≤magOf a*2 ^ upOf a:=by
    rw [e,hd,← UN_eq]
    exact Nat.le_mul_of_pos_left _ h1
  have h3:magOf a*2 ^ upOf a < 2 ^ 53*2 ^ upOf a:=Nat.mul_lt_mul_of_pos_right (by rw [two_pow_53];exact hm) (pow_pos' _)
  rw [← Nat.pow_add] at h3
  have h4:=(Nat.pow_lt_pow_iff_right (by decide:1 < 2)).1 (Nat.lt_of_le_of_lt h2 h3)
  rw [KU_eq] at h4
  exact ⟨by omega,mag_norm (by omega)⟩
theorem up_le {a d g:Nat} (hd:uV a=d*UN) (h1:1≤d) (hg:d < 2 ^ g):upOf a+52 < g+1074:=by
  have e:=uV_eq a
  have hm:=(up_ge hd h1).2
  have h2:2 ^ 52*2 ^ upOf a≤magOf a*2 ^ upOf a:=Nat.mul_le_mul_right _ (by rw [two_pow_52];exact hm)
  have h3:d*UN < 2 ^ g*2 ^ KU:=by rw [UN_eq];exact Nat.mul_lt_mul_of_pos_right hg (pow_pos' _)
  rw [← Nat.pow_add] at h2 h3
  have h4:=(Nat.pow_lt_pow_iff_right (by decide:1 < 2)).1 (Nat.lt_of_le_of_lt h2 (by rw [e,hd];exact h3))
  rw [KU_eq] at h4
  omega
theorem flat_of {m d:Nat} {i:Int} (h:V m i 0=V d 0 0):m*pw 2 (i+1200).toNat=d*pw 2 1200:=by
  unfold V at h
  exact Nat.eq_of_mul_eq_mul_right (pw_pos _ (by decide)) h
theorem mul_flat {ma mb d t:Nat} {i j:Int} (hi:-600≤i) (hj:-600≤j) (h1:ma*pw 2 (i+1200).toNat=d*pw 2 1200) (h2:mb*pw 2 (j+1200).toNat=t*pw 2 1200):ma*mb*pw 2 (i+j+1200).toNat=d*t*pw 2 1200:=by
  have e:pw 2 (i+1200).toNat*pw 2 (j+1200).toNat=pw 2 (i+j+1200).toNat*pw 2 1200:=by
    rw [← pw_add,← pw_add];congr 1;omega
  have hp:0 < pw 2 1200:=pw_pos _ (by decide)
  generalize pw 2 (i+1200).toNat=A at *
  generalize pw 2 (j+1200).toNat=B at *
  generalize pw 2 (i+j+1200).toNat=C at *
  generalize pw 2 1200=U at *
  apply Nat.eq_of_mul_eq_mul_right hp
  have:ma*A*(mb*B)=d*U*(t*U):=by rw [h1,h2]
  grind
theorem rungOf {M:Nat} {E:Int} (hF:Flt M E):(E+1074).toNat*4503599627370496+M < 9218868437227405312:=by
  obtain ⟨hM0,hM1,hE0,hE1,hsub⟩:=hF
  omega
theorem mul_within (s:Bool) (a b d k M:Nat) (E:Int) (ha:a < 9218868437227405312) (hb:b < 9218868437227405312) (hda:uV a=d*UN) (hdb:uV b=10 ^ k*UN) (h1:1≤d) (hF:Flt M E) (hW:Within (V d 0 (k:Int)) M E) :
    Ieee.double.mul (sw s a) (sw false b)=some (sw s ((E+1074).toNat*4503599627370496+M)):=by
  unfold Ieee.Format.mul
  rw [read_sw s a ha,read_sw false b hb]
  show some (Ieee.double.nearest (s ^^ false) (magOf a*magOf b) (-1074+(upOf a:Int)+(-1074+(upOf b:Int))))=_
  have u1:=up_ge hda h1
  have u2:=up_ge hdb (Nat.pow_pos (by decide))
  have f:=mul_flat (by omega) (by omega) (flat_of (rung_V a d hda)) (flat_of (rung_V b _ hdb))
  have hV:V (magOf a*magOf b) (-1074+(upOf a:Int)+(-1074+(upOf b:Int))) 0=V d 0 (k:Int):=by
    unfold V
    rw [f,show ((k:Int)+400).toNat=400+k from by omega,pw_add,show ((0:Int)+1200).toNat=1200 from by decide,show ((0:Int)+400).toNat=400 from by decide]
    show d*10 ^ k*pw 2 1200*pw 10 400=d*pw 2 1200*(pw 10 400*10 ^ k)
    generalize pw 2 1200=A
    generalize pw 10 400=B
    generalize 10 ^ k=C
    grind
  rw [nearest_within (s ^^ false) _ M _ E (Nat.mul_ne_zero (by omega) (by omega)) (by omega) hF (by rw [hV];exact hW),word_sw]
  cases s <;> rfl
theorem quot_cmp (t n v:Nat) (hn:0 < n):(t*n≤2*v→t≤2*(v / n)+(v % n != 0).toNat)∧(2*v≤t*n→2*(v / n)+(v % n != 0).toNat≤t) ∧
    (t % 2=0→¬ 2*v≤t*n→¬ 2*(v / n)+(v % n != 0).toNat≤t)∧(t % 2=0→¬ t*n≤2*v→¬ t≤2*(v / n)+(v % n != 0).toNat):=by
  have hv:=Nat.div_add_mod v n
  have hr:=Nat.mod_lt v hn
  generalize v / n=q at *
  generalize v % n=r at *
  subst hv
  have hst:(r != 0).toNat=if r=0 then 0 else 1:=by
    by_cases h:r=0
    · subst h;rfl
    · rw [if_neg h,show (r != 0)=true from by simpa using h];rfl
  rw [hst]
  -- t against 2 q
  have key:∀ x y:Nat,x < y→x*n+n≤y*n:=fun x y h=>by
    have:=Nat.mul_le_mul_right n (show x+1≤y from h)
    rw [Nat.add_mul,Nat.one_mul] at this
    exact this
  have hq:2*q*n=2*(n*q):=by grind
  have hq1:(2*q+1)*n=2*(n*q)+n:=by grind
  have hq2:(2*q+2)*n=2*(n*q)+2*n:=by grind
  refine ⟨fun h=>?_,fun h=>?_,fun ht h c=>?_,fun ht h c=>?_⟩
  · by_cases h0:r=0
    · rw [if_pos h0]
      rcases Nat.lt_or_ge (2*q) t with c | c
      · have:=key _ _ c;omega
      · omega
    · rw [if_neg h0]
      rcases Nat.lt_or_ge (2*q+1) t with c | c
      · have:=key _ _ c;omega
      · omega
  · by_cases h0:r=0
    · rw [if_pos h0]
      rcases Nat.lt_or_ge t (2*q) with c | c
      · have:=key _ _ c;omega
      · omega
    · rw [if_neg h0]
      rcases Nat.lt_or_ge t (2*q+1) with c | c
      · rcases Nat.lt_or_ge t (2*q) with c' | c'
        · have:=key _ _ c';omega
        · have:t=2*q:=by omega
          subst this
          omega
      · omega
  · by_cases h0:r=0
    · rw [if_pos h0] at c
      have:=Nat.mul_le_mul_right n (show 2*q≤t from by omega)
      omega
    · rw [if_neg h0] at c
      have:=Nat.mul_le_mul_right n (show 2*q+2≤t from by omega)
      omega
  · by_cases h0:r=0
    · rw [if_pos h0] at c
      have:=Nat.mul_le_mul_right n (show t≤2*q from by omega)
      omega
    · rw [if_neg h0] at c
      have:=Nat.mul_le_mul_right n (show t≤2*q from by omega)
      omega
theorem div_flat {m n d t v:Nat} {i j:Int} {k more:Nat} (hi:-600≤i) (hj:-300≤j) (hj1:j≤100) (hmore:more≤200) (hk:k≤400) (h1:m*pw 2 (i+1200).toNat=d*pw 2 1200) (h2:n*pw 2 (j+1200).toNat=10 ^ k*pw 2 1200) (hv:v=m*2 ^ more) :
    (V t (i - j - more - 1) 0≤V d 0 (-(k:Int)) ↔ t*n≤2*v)∧(V d 0 (-(k:Int))≤V t (i - j - more - 1) 0 ↔ 2*v≤t*n):=by
  obtain ⟨P,hP⟩:∃ P,P=pw 10 (-(k:Int)+400).toNat*pw 2 (i+1200).toNat*pw 2 (i - j - more - 1+1200).toNat:=⟨_,rfl⟩
  have q10:pw 10 ((0:Int)+400).toNat=pw 10 (-(k:Int)+400).toNat*10 ^ k:=by
    rw [show ((0:Int)+400).toNat=(-(k:Int)+400).toNat+k from by omega,pw_add];rfl
  have hA:0 < pw 10 (-(k:Int)+400).toNat:=pw_pos _ (by decide)
  have hB:0 < pw 2 1200:=pw_pos _ (by decide)
  have hC:0 < pw 2 (i+1200).toNat:=pw_pos _ (by decide)
  have ex:pw 2 (i - j - more - 1+1200).toNat*pw 2 (j+1200).toNat*(2 ^ more*2)=pw 2 (i+1200).toNat*pw 2 1200:=by
    show pw 2 (i - j - more - 1+1200).toNat*pw 2 (j+1200).toNat*(pw 2 more*pw 2 1)=_
    rw [← pw_add,← pw_add,← pw_add,← pw_add]
    congr 1
    omega
  -- both sides times one and the same
  have l:V t (i - j - more - 1) 0*pw 2 1200*(2 ^ more*2)=pw 10 (-(k:Int)+400).toNat*pw 2 (i+1200).toNat*pw 2 1200*(t*n):=by
    unfold V
    rw [q10]
    generalize pw 2 (i - j - more - 1+1200).toNat=X at *
    generalize pw 10 (-(k:Int)+400).toNat=A at *
    generalize pw 2 (i+1200).toNat=C at *
    generalize pw 2 (j+1200).toNat=D at *
    generalize pw 2 1200=U at *
    generalize 10 ^ k=T at *
    generalize 2 ^ more=O at *
    have:t*X*(A*T)*U*(O*2)=t*A*X*(O*2)*(T*U):=by grind
    rw [this,← h2]
    have:t*A*X*(O*2)*(n*D)=t*A*n*(X*D*(O*2)):=by grind
    rw [this,ex]
    grind
  have r:V d 0 (-(k:Int))*pw 2 1200*(2 ^ more*2)=pw 10 (-(k:Int)+400).toNat*pw 2 (i+1200).toNat*pw 2 1200*(2*v):=by
    unfold V
    rw [hv,show ((0:Int)+1200).toNat=1200 from by decide,← h1]
    generalize pw 10 (-(k:Int)+400).toNat=A at *
    generalize pw 2 (i+1200).toNat=C at *
    generalize pw 2 1200=U at *
    generalize 2 ^ more=O at *
    grind
  have hO:0 < 2 ^ more*2:=Nat.mul_pos (Nat.pow_pos (by decide)) (by decide)
  have hK:0 < pw 10 (-(k:Int)+400).toNat*pw 2 (i+1200).toNat*pw 2 1200:=Nat.mul_pos (Nat.mul_pos hA hC) hB
  constructor
  · rw [← Nat.mul_le_mul_right_iff hB,← Nat.mul_le_mul_right_iff hO,l,r,Nat.mul_le_mul_left_iff hK]
  · rw [← Nat.mul_le_mul_right_iff hB,← Nat.mul_le_mul_right_iff hO,l,r,Nat.mul_le_mul_left_iff hK]
theorem div_within (s:Bool) (a b d k M:Nat) (E:Int) (ha:a < 9218868437227405312) (hb:b < 9218868437227405312) (hda:uV a=d*UN) (hdb:uV b=10 ^ k*UN) (h1:1≤d) (hd:d < 2 ^ 53) (hk:k≤22) (hF:Flt M E) (hW:Within (V d 0 (-(k:Int))) M E) :
    Ieee.double.div (sw s a) (sw false b)=some (sw s ((E+1074).toNat*4503599627370496+M)):=by
  unfold Ieee.Format.div
  rw [read_sw s a ha,read_sw false b hb]
  have u1:=up_ge hda h1
  have u2:=up_ge hdb (Nat.pow_pos (by decide))
  have v1:=up_le hda h1 hd
  have v2:=up_le (g:=74) hdb (Nat.pow_pos (by decide)) (by
    have:10 ^ k≤10 ^ 22:=Nat.pow_le_pow_right (by decide) hk
    omega)
  have hn:magOf b≠0:=by omega
  have hn1:=mag_lt b
  have hm1:=mag_lt a
  have lm:(magOf a).log2=52:=log2_of _ 52 (by rw [two_pow_52];exact u1.2) (by rw [two_pow_53];exact hm1)
  have ln:(magOf b).log2=52:=log2_of _ 52 (by rw [two_pow_52];exact u2.2) (by rw [two_pow_53];exact hn1)
  unfold Ieee.Datum.quotient
  simp only [lm,ln]
  rw [if_neg hn]
  obtain ⟨v,hv⟩:∃ v,v=magOf a*2 ^ 54:=⟨_,rfl⟩
  have hs:magOf a <<< (Ieee.double.fractionBits+2+52 - 52)=v:=by rw [Nat.shiftLeft_eq,hv];rfl
  have hx:((Ieee.double.fractionBits+2+52 - 52:Nat):Int)=((54:Nat):Int):=by decide
  rw [hs,hx]
  show some (Ieee.double.nearest (s ^^ false) (2*(v / magOf b)+(v % magOf b != 0).toNat) (-1074+(upOf a:Int) - (-1074+(upOf b:Int)) - ((54:Nat):Int) - 1))=_
  obtain ⟨pl,hpl⟩:∃ pl:Int,pl=-1074+(upOf a:Int) - (-1074+(upOf b:Int)) - ((54:Nat):Int) - 1:=⟨_,rfl⟩
  have D:=fun t=>div_flat (t:=t) (k:=k) (more:=54) (by omega) (by omega) (by omega) (by decide) (by omega) (flat_of (rung_V a d hda)) (flat_of (rung_V b _ hdb)) hv
  rw [← hpl] at D ⊢
  have Q:=fun t=>quot_cmp t (magOf b) v (by omega)
  have hbig:18014398509481984*magOf b≤2*v:=by rw [hv];omega
  have hU:=(Q 18014398509481984).1 hbig
  generalize 2*(v / magOf b)+(v % magOf b != 0).toNat=U at *
  have hF':=hF
  obtain ⟨hM0,hM1,hE0,hE1,hsub⟩:=hF'
  obtain ⟨w1,w2,w3,w4⟩:=hW
  have hg:pl+54 < E - 1+54:=by
    have:=V_lt_exp (k:=54) (j:=54) (by omega) (by omega) (show 2 ^ 54≤18014398509481984 from by decide) (show 2*M+1 < 2 ^ 54 from by rw [show (2:Nat) ^ 54=18014398509481984 from by decide];omega) (Nat.le_trans ((D _).1.2 hbig) w2)
    omega
  obtain ⟨g,hg'⟩:∃ g:Nat,E - 2=pl+(g:Int):=⟨(E - 2 - pl).toNat,by omega⟩
  have eS:∀ x,V x (E - 1) 0=V (x*2 ^ (g+1)) pl 0:=fun x=>by rw [V_two _ _ _ _ (by omega),show E - 1=pl+((g+1:Nat):Int) from by omega]
  have eT:∀ x,V x (E - 2) 0=V (x*2 ^ g) pl 0:=fun x=>by rw [V_two _ _ _ _ (by omega),hg']
  have ev:∀ x,x*2 ^ (g+1) % 2=0:=fun x=>by rw [Nat.pow_succ,← Nat.mul_assoc];omega
  have hW':Within (V U pl 0) M E:=by
    refine ⟨?_,?_,fun ho=>⟨?_,?_⟩,fun hM hE=>?_⟩
    · rw [eS] at w1 ⊢
      exact (V_mono _ _).2 ((Q _).1 ((D _).1.1 w1))
    · rw [eS] at w2 ⊢
      exact (V_mono _ _).2 ((Q _).2.1 ((D _).2.1 w2))
    · have:=(w3 ho).1
      rw [eS] at this ⊢
      rw [V_mono]
      exact (Q _).2.2.1 (ev _) (fun c=>this ((D _).2.2 c))
    · have:=(w3 ho).2
      rw [eS] at this ⊢
      rw [V_mono]
      exact (Q _).2.2.2 (ev _) (fun c=>this ((D _).1.2 c))
    · have:=w4 hM hE
      rw [eT] at this ⊢
      exact (V_mono _ _).2 ((Q _).1 ((D _).1.1 this))
  rw [nearest_within (s ^^ false) _ M _ E (by omega) (by omega) hF hW',word_sw]
  cases s <;> rfl
end Go.Proofs.YtifapjammoahgaaGreatDoor.Rl
/- THE TABLE OF POWERS OF TEN, as floats. Own work of the verifier. -/
namespace Go.Proofs.YtifapjammoahgaaGreatDoor.Rl
open Go.RowKit Go.Sort
def tenL:List Nat:=[4607182418800017408,4621819117588971520,4636737291354636288,4652007308841189376,4666723172467343360,4681608360884174848,4696837146684686336,4711630319722168320,4726483295884279808,4741671816366391296,4756540486875873280,4771362005757984768,4786511204640096256,4801453603149578240,4816244402031689728,4831355200913801216,4846369599423283200,4861130398305394688,4876203697187506176,4891288408196988160,4906019910204099648,4921056587992461136,4936209963552724370]
def tenW (k:Nat):Nat:=tenL.getD k 0
def P10F (w:World):Prop:=∃ b o,w.cell? ⟨15,0,none⟩=some (.slice (some ⟨b,o,none⟩) 23 23)∧∀ k,k < 23→w.cell? ⟨b,o+k,none⟩=some (.float .f64 (tenW k))
theorem P10F.below {w w':World} (h:P10F w) (hb:Below w.heap.size w w'):P10F w':=by
  obtain ⟨b,o,p1,p2⟩:=h
  exact ⟨b,o,by rw [(bcell hb).1 _ _ (lt_of_cell p1),p1],fun k hk=>by rw [(bcell hb).1 _ _ (lt_of_cell (p2 k hk)),p2 k hk]⟩
end Go.Proofs.YtifapjammoahgaaGreatDoor.Rl
