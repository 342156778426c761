/- BELOW THE LEAST NORMAL FLOAT the values rise too. Own work of the verifier. -/
import Derived.Test.YtifapjammoahgaaGreatDoorSAD
namespace Go.Proofs.YtifapjammoahgaaGreatDoor.Rl
open Go.RowKit
theorem short_low (f z:Nat) (hz:12≤z):shortF (f*2 ^ z) (-1074 - (z:Int))=pick (f*2 ^ z) (f*2 ^ z - 2 ^ (z - 1)) (f*2 ^ z+2 ^ (z - 1)) (f % 2) (-1074 - (z:Int)) (-(l10 (-1074))):=by
  unfold shortF
  rw [if_neg (by omega),if_neg (by omega),show (-1075 - (-1074 - (z:Int))).toNat=z - 1 from by omega,show (-1074 - (-1074 - (z:Int))).toNat=z from by omega,Nat.mul_div_cancel _ (Nat.pow_pos (by decide))]
theorem rise_low (f z:Nat) (hz0:12≤z) (hz1:z≤63) (h0:9223372036854775808≤f*2 ^ z) (h1:(f+2)*2 ^ z≤18446744073709551616) :
    ltV (shortF (f*2 ^ z) (-1074 - (z:Int))) (shortF ((f+1)*2 ^ z) (-1074 - (z:Int)))=true:=by
  rw [short_low f z hz0,short_low (f+1) z hz0]
  have hE:=ok_sub (-1074 - (z:Int)) (by omega) (by omega)
  have hW:=wide_sub (-1074 - (z:Int)) (by omega) (by omega)
  rw [show (-1075 - (-1074 - (z:Int))).toNat=z - 1 from by omega] at hW
  refine ltV_of _ _ (-(l10 (-1074))) (by decide) (pick_two ..) (pick_two ..) ?_
  have hg:2 ^ (z - 1)≤4611686018427387904:=by
    have:2 ^ (z - 1)≤2 ^ 62:=Nat.pow_le_pow_right (by decide) (by omega)
    exact this
  have hg0:0 < 2 ^ (z - 1):=Nat.pow_pos (by decide)
  have e1:(f+1)*2 ^ z=f*2 ^ z+2 ^ z:=by rw [Nat.add_mul,Nat.one_mul]
  have e2:(f+2)*2 ^ z=f*2 ^ z+2*2 ^ z:=by rw [Nat.add_mul]
  have e3:2 ^ z=2*2 ^ (z - 1):=by rw [← Nat.pow_succ',show (z - 1).succ=z from by omega]
  have a:=(pick_sym (f*2 ^ z) (2 ^ (z - 1)) (f % 2) _ _ (by omega) (by omega) (by omega) (by omega) hE hW).2.1
  have b:=(pick_sym ((f+1)*2 ^ z) (2 ^ (z - 1)) ((f+1) % 2) _ _ (by omega) (by omega) (by omega) (by omega) hE hW).1
  have u:=scl_between (f*2 ^ z+2 ^ (z - 1)) _ _ (by omega) (by omega) hE
  have c:=high_low (scl (f*2 ^ z+2 ^ (z - 1)) (-1074 - (z:Int)) (-(l10 (-1074)))) (f % 2) (by omega) (by omega) (by omega)
  rw [show (f+1) % 2=1 - f % 2 from by omega] at b ⊢
  have e4:(f+1)*2 ^ z - 2 ^ (z - 1)=f*2 ^ z+2 ^ (z - 1):=by omega
  rw [e4] at b ⊢
  exact Nat.lt_of_le_of_lt a (Nat.lt_of_lt_of_le c b)
end Go.Proofs.YtifapjammoahgaaGreatDoor.Rl
/- THE VALUES RISE from float to float. Own work of the verifier. -/
namespace Go.Proofs.YtifapjammoahgaaGreatDoor.Rl
open Go.RowKit
theorem lt_exp {a b:Nat} (h:2 ^ a < 2 ^ b):a < b:=(Nat.pow_lt_pow_iff_right (by decide:1 < 2)).1 h
theorem sd_low (a:Nat) (h1:a < 4503599627370496):sd a=shortF (a*2 ^ (64 - Lib.bitLen a)) (-1074 - ((64 - Lib.bitLen a:Nat):Int)):=by
  unfold sd
  rw [if_pos (by omega),Nat.mod_eq_of_lt h1]
theorem sd_norm (a:Nat) (h0:4503599627370496≤a) (h1:a < 9218868437227405312):sd a=shortF ((4503599627370496+a % 4503599627370496)*2048) ((a / 4503599627370496:Nat) - 1086):=by
  unfold sd
  rw [if_neg (by omega),show a / 4503599627370496 % 2048=a / 4503599627370496 from by omega]
theorem rise_next (a:Nat) (h0:1≤a) (h1:a+1 < 9218868437227405312):ltV (sd a) (sd (a+1))=true:=by
  by_cases c1:a < 4503599627370496
  · obtain ⟨l1,l2,l3⟩:=len_bounds a (by omega) (by omega)
    have k52:Lib.bitLen a≤52:=by
      have:Lib.bitLen a - 1 < 52:=lt_exp (Nat.lt_of_le_of_lt l2 (by rw [show (2:Nat) ^ 52=4503599627370496 from by decide];exact c1))
      omega
    rw [sd_low a c1]
    by_cases c2:a+1 < 2 ^ Lib.bitLen a
    · have c3:a+1 < 4503599627370496:=by
        have:2 ^ Lib.bitLen a≤2 ^ 52:=Nat.pow_le_pow_right (by decide) k52
        rw [show (2:Nat) ^ 52=4503599627370496 from by decide] at this
        omega
      obtain ⟨m1,m2,m3⟩:=len_bounds (a+1) (by omega) (by omega)
      have e:Lib.bitLen (a+1)=Lib.bitLen a:=by
        have x1:=lt_exp (Nat.lt_of_le_of_lt m2 c2)
        have x2:=lt_exp (Nat.lt_of_le_of_lt l2 (Nat.lt_trans (Nat.lt_succ_self a) m3))
        omega
      rw [sd_low (a+1) c3,e]
      refine rise_low a (64 - Lib.bitLen a) (by omega) (by omega) ?_ ?_
      · have:=Nat.mul_le_mul_right (2 ^ (64 - Lib.bitLen a)) l2
        rw [← Nat.pow_add,show Lib.bitLen a - 1+(64 - Lib.bitLen a)=63 from by omega] at this
        exact this
      · have:=Nat.mul_le_mul_right (2 ^ (64 - Lib.bitLen a)) (show a+2≤2 ^ Lib.bitLen a from c2)
        rw [← Nat.pow_add,show Lib.bitLen a+(64 - Lib.bitLen a)=64 from by omega] at this
        exact this
    · have c3:a+1=2 ^ Lib.bitLen a:=by omega
      have h:=rise_sub (Lib.bitLen a) (by omega) k52
      rw [show 2 ^ Lib.bitLen a - 1=a from by omega] at h
      by_cases c4:a+1 < 4503599627370496
      · obtain ⟨m1,m2,m3⟩:=len_bounds (a+1) (by omega) (by omega)
        have e:Lib.bitLen (a+1)=Lib.bitLen a+1:=by
          have x1:=lt_exp (show 2 ^ Lib.bitLen a < 2 ^ Lib.bitLen (a+1) from by omega)
          have x2:2 ^ (Lib.bitLen (a+1) - 1) < 2 ^ (Lib.bitLen a+1):=by
            rw [Nat.pow_succ]
            have:0 < 2 ^ Lib.bitLen a:=Nat.pow_pos (by decide)
            omega
          have:=lt_exp x2
          omega
        rw [sd_low (a+1) c4,e,show 64 - (Lib.bitLen a+1)=63 - Lib.bitLen a from by omega,c3,← Nat.pow_add,show Lib.bitLen a+(63 - Lib.bitLen a)=63 from by omega]
        exact h
      · have e:Lib.bitLen a=52:=by
          have x1:¬ Lib.bitLen a < 52:=fun k=>by
            have:2 ^ Lib.bitLen a≤2 ^ 51:=Nat.pow_le_pow_right (by decide) (by omega)
            rw [show (2:Nat) ^ 51=2251799813685248 from by decide] at this
            omega
          omega
        have e2:a+1=4503599627370496:=by omega
        rw [e2,sd_norm 4503599627370496 (by decide) (by decide)]
        rw [e] at h ⊢
        exact h
  · rw [sd_norm a (by omega) (by omega),sd_norm (a+1) (by omega) h1]
    by_cases c2:a % 4503599627370496+1 < 4503599627370496
    · rw [show (a+1) / 4503599627370496=a / 4503599627370496 from by omega,show (a+1) % 4503599627370496=a % 4503599627370496+1 from by omega]
      by_cases c3:a % 4503599627370496=0∧2≤a / 4503599627370496
      · have h:=rise_from ((a / 4503599627370496:Nat) - 1086) (by omega) (by omega)
        rw [c3.1]
        exact h
      · exact rise_in (4503599627370496+a % 4503599627370496) _ (by omega) (by omega) (by omega) (by omega)
    · have h:=rise_to ((a / 4503599627370496:Nat) - 1085) (by omega) (by omega)
      rw [show (a+1) / 4503599627370496=a / 4503599627370496+1 from by omega,show (a+1) % 4503599627370496=0 from by omega,show a % 4503599627370496=4503599627370495 from by omega,show (((a / 4503599627370496+1:Nat):Int) - 1086)=((a / 4503599627370496:Nat):Int) - 1085 from by omega]
      rw [show (((a / 4503599627370496:Nat):Int) - 1085 - 1)=((a / 4503599627370496:Nat):Int) - 1086 from by omega] at h
      exact h
theorem rise_all {a b:Nat} (h0:1≤a) (h:a < b) (h1:b < 9218868437227405312):ltV (sd a) (sd b)=true:=by
  induction b with
  | zero=>omega
  | succ b ih =>
    by_cases e:a=b
    · subst e;exact rise_next a h0 h1
    · have i:=of_decide_eq_true (ih (by omega) (by omega))
      have j:=of_decide_eq_true (rise_next b (by omega) h1)
      exact decide_eq_true (Nat.lt_trans i j)
end Go.Proofs.YtifapjammoahgaaGreatDoor.Rl
/- NO MORE THAN 17 DIGITS. Own work of the verifier. -/
namespace Go.Proofs.YtifapjammoahgaaGreatDoor.Rl
open Go.RowKit
theorem pick_17 (x g odd:Nat) (e p:Int) (hx0:4611686018427387904≤x - g) (hg:g≤x) (hg1:1024≤g) (hx:x+g < 18446744073709551616) (ho:odd≤1) (hE:okE e p=true) (hlh:dLow (scl (x - g) e p) odd≤dHigh (scl (x+g) e p) odd)
    (hmid:dLow (scl (x - g) e p) odd < dHigh (scl (x+g) e p) odd→dMid (scl x e p)≤dHigh (scl (x+g) e p) odd):(pick x (x - g) (x+g) odd e p).1 < 100000000000000000:=by
  have hE':=hE
  unfold okE at hE'
  simp only [Bool.and_eq_true,decide_eq_true_eq] at hE'
  obtain ⟨⟨⟨s0,s1⟩,hp0⟩,hp1⟩:=hE'
  have u1:=scl_between (x - g) e p hx0 (by omega) hE
  have u3:=scl_between (x+g) e p (by omega) hx hE
  have h1:=tab_fit (p+348).toNat (by omega)
  have h2:=tab_top (p+348).toNat (by omega)
  have f1:=scl_form (x - g) e p (by omega) hp0 hp1
  have f3:=scl_form (x+g) e p hx hp0 hp1
  have a:=NN_ceil (x - g) (tabHi (p+348).toNat) (tabLo (p+348).toNat) (by omega)
  have b:=NN_ceil (x+g) (tabHi (p+348).toNat) (tabLo (p+348).toNat) (by omega)
  have hT:0 < 2 ^ sOf e p:=Nat.pow_pos (by decide)
  have key:dHigh (scl (x+g) e p) odd≤dLow (scl (x - g) e p) odd+8→dHigh (scl (x+g) e p) odd < 100000000000000000:=by
    intro hn
    rw [dHigh_small _ _ (by omega) (by omega) ho,dLow_small _ _ (by omega) ho] at hn
    rw [dHigh_small _ _ (by omega) (by omega) ho]
    generalize tabHi (p+348).toNat*18446744073709551616 - tabLo (p+348).toNat=C at *
    have e1:(x+g)*C=(x - g)*C+2*g*C:=by rw [← Nat.add_mul];congr 1;omega
    have e2:(x+g)*C≤9007199254740992*(2*g*C):=by rw [← Nat.mul_assoc];exact Nat.mul_le_mul_right _ (by omega)
    have hD:18446744073709551616≤18446744073709551616*2 ^ sOf e p:=by omega
    obtain ⟨Qn,Rn,n1,n2,n3⟩:=cutD_cases (NN (x - g) (tabHi (p+348).toNat) (tabLo (p+348).toNat)) (18446744073709551616*2 ^ sOf e p) (by omega)
    obtain ⟨Qx,Rx,x1,x2,x3⟩:=cutD_cases (NN (x+g) (tabHi (p+348).toNat) (tabLo (p+348).toNat)) (18446744073709551616*2 ^ sOf e p) (by omega)
    rw [← f1] at n3
    rw [← f3] at x3
    generalize scl (x - g) e p=Un at *
    generalize scl (x+g) e p=Ux at *
    generalize NN (x - g) (tabHi (p+348).toNat) (tabLo (p+348).toNat)=Nn at *
    generalize NN (x+g) (tabHi (p+348).toNat) (tabLo (p+348).toNat)=Nx at *
    generalize 18446744073709551616*2 ^ sOf e p=D at *
    have q1:Qx≤Qn+41:=by omega
    have q2:D*Qx≤D*Qn+D*41:=by rw [← Nat.mul_add];exact Nat.mul_le_mul_left _ q1
    have q3:D*Qx≤D*378302368699121664:=by
      generalize 2*g*C=G at *
      generalize (x - g)*C=X at *
      omega
    have q4:Qx≤378302368699121664:=Nat.le_of_mul_le_mul_left q3 (by omega)
    omega
  unfold pick
  generalize dLow (scl (x - g) e p) odd=L at *
  have hH:=dHigh_small (scl (x+g) e p) odd (by omega) (by omega) ho
  have hH2:dHigh (scl (x+g) e p) odd≤144115188075855873:=by rw [hH];omega
  generalize dHigh (scl (x+g) e p) odd=H at *
  generalize dMid (scl x e p)=M at *
  split
  · show H / 10 < _;omega
  · have k:=key (by omega)
    split
    · rename_i h;have:=hmid h;show M < _;omega
    · show L < _;omega
end Go.Proofs.YtifapjammoahgaaGreatDoor.Rl
/- NO MORE THAN 17 DIGITS, whatever the float. Own work of the verifier. -/
namespace Go.Proofs.YtifapjammoahgaaGreatDoor.Rl
open Go.RowKit
theorem sym_17 (x g odd:Nat) (e p:Int) (hx0:4611686018427387904≤x - g) (hg:g≤x) (hg1:1024≤g) (hx:x+g < 18446744073709551616) (ho:odd≤1) (hE:okE e p=true) (hW:okW g e p=true) :
    (pick x (x - g) (x+g) odd e p).1 < 100000000000000000:=by
  have hE':=hE
  unfold okE at hE'
  simp only [Bool.and_eq_true,decide_eq_true_eq] at hE'
  obtain ⟨⟨⟨s0,s1⟩,hp0⟩,hp1⟩:=hE'
  have u1:=scl_between (x - g) e p hx0 (by omega) hE
  have u2:=scl_between x e p (by omega) (by omega) hE
  have u3:=scl_between (x+g) e p (by omega) hx hE
  have hw:=wide_ends x g e p hg hp0 hp1 hW
  have h1:=tab_fit (p+348).toNat (by omega)
  have h2:=tab_top (p+348).toNat (by omega)
  have hs:=sym_ends x g (tabHi (p+348).toNat) (tabLo (p+348).toNat) hg (by omega)
  have hT:0 < 2 ^ sOf e p:=Nat.pow_pos (by decide)
  have f1:=scl_form (x - g) e p (by omega) hp0 hp1
  have f2:=scl_form x e p (by omega) hp0 hp1
  have f3:=scl_form (x+g) e p hx hp0 hp1
  have v1:=u1
  have v2:=u2
  have v3:=u3
  rw [f1] at v1
  rw [f2] at v2
  rw [f3] at v3
  apply pick_17 x g odd e p hx0 hg hg1 hx ho hE
  · rw [f1,f3]
    exact low_high _ _ _ odd (by omega) hw ho (by omega) (by omega) (by omega)
  · intro hlt
    rw [f1,f3] at hlt
    rw [f2,f3]
    exact (mid_between _ _ _ _ odd (by omega) hs.1 hs.2 ho (by omega) (by omega) (by omega) (by omega) (by omega) hlt).2
theorem two_17 (e:Int) (h0:-1084≤e) (h1:e≤960):(shortF 9223372036854775808 e).1 < 100000000000000000:=by
  have h:(List.range 2045).all (fun i=>decide ((shortF 9223372036854775808 ((i:Int) - 1084)).1 < 100000000000000000))=true:=by decide +kernel
  have:=List.all_eq_true.1 h (e+1084).toNat (List.mem_range.2 (by omega))
  rw [show (((e+1084).toNat:Nat):Int) - 1084=e from by omega] at this
  exact of_decide_eq_true this
theorem norm_17 (f:Nat) (e:Int) (hf0:4503599627370496≤f) (hf1:f < 9007199254740992) (he0:-1085≤e) (he1:e≤960):(shortF (f*2048) e).1 < 100000000000000000:=by
  by_cases c:f=4503599627370496∧e≠-1085
  · obtain ⟨rfl,c2⟩:=c
    exact two_17 e (by omega) he1
  · rw [short_norm f e (by omega) he0]
    by_cases hz:e=-11
    · subst hz
      obtain ⟨a,b,_⟩:=pick_eleven f (f % 2) hf0 hf1 (by omega)
      rw [show -(l10 (-11+11))=0 from by decide]
      unfold pick
      rw [a,b]
      split
      · show f / 10 < _;omega
      · rw [if_neg (Nat.lt_irrefl _)];show f < _;omega
    · exact sym_17 (f*2048) 1024 (f % 2) e _ (by omega) (by omega) (by omega) (by omega) (by omega) (ok_norm e he0 (by omega)).1 (wide_norm e he0 (by omega) hz)
theorem low_17 (f z:Nat) (hz0:12≤z) (hz1:z≤63) (h0:9223372036854775808≤f*2 ^ z) (h1:(f+1)*2 ^ z≤18446744073709551616):(shortF (f*2 ^ z) (-1074 - (z:Int))).1 < 100000000000000000:=by
  rw [short_low f z hz0]
  have hE:=ok_sub (-1074 - (z:Int)) (by omega) (by omega)
  have hW:=wide_sub (-1074 - (z:Int)) (by omega) (by omega)
  rw [show (-1075 - (-1074 - (z:Int))).toNat=z - 1 from by omega] at hW
  have hg:2 ^ (z - 1)≤4611686018427387904:=by
    have:2 ^ (z - 1)≤2 ^ 62:=Nat.pow_le_pow_right (by decide) (by omega)
    exact this
  have hg0:2 ^ 11≤2 ^ (z - 1):=Nat.pow_le_pow_right (by decide) (by omega)
  have e1:(f+1)*2 ^ z=f*2 ^ z+2 ^ z:=by rw [Nat.add_mul,Nat.one_mul]
  have e3:2 ^ z=2*2 ^ (z - 1):=by rw [← Nat.pow_succ',show (z - 1).succ=z from by omega]
  rw [show (2:Nat) ^ 11=2048 from by decide] at hg0
  exact sym_17 (f*2 ^ z) (2 ^ (z - 1)) (f % 2) _ _ (by omega) (by omega) (by omega) (by omega) (by omega) hE hW
theorem sd_17 (x:Nat) (h0:x % 9223372036854775808≠0) (h1:x % 9223372036854775808 < 9218868437227405312):(sd x).1 < 100000000000000000:=by
  by_cases hs:x % 9223372036854775808 < 4503599627370496
  · obtain ⟨l1,l2,l3⟩:=len_bounds (x % 4503599627370496) (by omega) (by omega)
    have k52:Lib.bitLen (x % 4503599627370496)≤52:=by
      have:Lib.bitLen (x % 4503599627370496) - 1 < 52:=lt_exp (Nat.lt_of_le_of_lt l2 (by rw [show (2:Nat) ^ 52=4503599627370496 from by decide];omega))
      omega
    unfold sd
    rw [if_pos hs]
    refine low_17 (x % 4503599627370496) (64 - Lib.bitLen (x % 4503599627370496)) (by omega) (by omega) ?_ ?_
    · have:=Nat.mul_le_mul_right (2 ^ (64 - Lib.bitLen (x % 4503599627370496))) l2
      rw [← Nat.pow_add,show Lib.bitLen (x % 4503599627370496) - 1+(64 - Lib.bitLen (x % 4503599627370496))=63 from by omega] at this
      exact this
    · have:=Nat.mul_le_mul_right (2 ^ (64 - Lib.bitLen (x % 4503599627370496))) (show x % 4503599627370496+1≤2 ^ Lib.bitLen (x % 4503599627370496) from l3)
      rw [← Nat.pow_add,show Lib.bitLen (x % 4503599627370496)+(64 - Lib.bitLen (x % 4503599627370496))=64 from by omega] at this
      exact this
  · unfold sd
    rw [if_neg hs]
    exact norm_17 (4503599627370496+x % 4503599627370496) _ (by omega) (by omega) (by omega) (by omega)
end Go.Proofs.YtifapjammoahgaaGreatDoor.Rl
