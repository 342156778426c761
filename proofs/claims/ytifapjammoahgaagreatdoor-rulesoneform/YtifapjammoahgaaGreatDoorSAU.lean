/- pack64 AT EVERY WORD: it answers something. Own work of the verifier. -/
import Derived.Test.YtifapjammoahgaaGreatDoorSAT
import Derived.WalkMore
import Derived.Deep.DeepCutAuto
import Derived.IntWalk
import Derived.Deep.CutBlock
import Derived.LaidEqlPtr
import Derived.Test.YtifapjammoahgaaGreatDoorSAI
import Derived.Test.YtifapjammoahgaaGreatDoorSAJ
set_option maxRecDepth 100000
set_option maxHeartbeats 1000000
namespace Go.Proofs.YtifapjammoahgaaGreatDoor.Rl
open Go.RowKit Go.Sort
def TellsE (e:Ending):Prop:=∃ (f:Nat) (v:Value),e=.returned (.tuple #[.float .f64 f,v])∧f < 18446744073709551616∧(v=.nilIface∨v=.iface 156 (.int .i64 1))
theorem pack_some (X:Nat) (E:Int) (hX:X < 18446744073709551616) (hE0:-1074≤E) (hE1:E≤1200) (w:World) :
    Calls Tryz.prog 199 #[.int .u64 (X:Int),.int .i64 E] w fun r w'=>TellsE r∧w'=w:=by
  have hb:=u64_and_nat X 4503599627370496 hX (by decide)
  rw [show ((4503599627370496:Nat):Int)=4503599627370496 from rfl] at hb
  generalize X &&& 4503599627370496=Z at *
  rcases Nat.eq_zero_or_pos Z with hZ | hZ
  · subst hZ
    rw [show ((0:Nat):Int)=0 from rfl] at hb
    go_enter Tryz.func199,Tryz.ntmps199
    go_wp2_with (first | simp only [f64from] | fail)
    go_ret2
    exact ⟨⟨_,_,rfl,hX,Or.inl rfl⟩,rfl⟩
  · have hZ':((Z:Int) == 0)=false:=by rw [beq_eq_false_iff_ne];omega
    by_cases hbig:972≤E
    · have h1:=u64_and_nat X 9223372036854775808 hX (by decide)
      have h1':X &&& 9223372036854775808 < 2 ^ 64:=Nat.and_lt_two_pow X (by decide)
      rw [show ((9223372036854775808:Nat):Int)=9223372036854775808 from rfl] at h1
      generalize X &&& 9223372036854775808=Y at *
      have h2:=u64_or_nat Y 9218868437227405312 h1' (by decide)
      have h2':Y ||| 9218868437227405312 < 2 ^ 64:=Nat.or_lt_two_pow h1' (by decide)
      rw [show ((9218868437227405312:Nat):Int)=9218868437227405312 from rfl] at h2
      generalize Y ||| 9218868437227405312=U at *
      go_enter Tryz.func199,Tryz.ntmps199
      go_wp2_with (first | simp only [f64from] | fail)
      go_ret2
      exact ⟨⟨_,_,rfl,h2',Or.inr rfl⟩,rfl⟩
    · obtain ⟨q,hq⟩:∃ q:Nat,1075+E=(q:Int):=⟨(1075+E).toNat,by omega⟩
      have hqq:(q:Int) < 2047:=by omega
      have h1:=u64_andNot_nat X 4503599627370496 hX (by decide)
      have h1':X &&& (18446744073709551615 - 4503599627370496) < 2 ^ 64:=Nat.and_lt_two_pow X (by decide)
      rw [show ((4503599627370496:Nat):Int)=4503599627370496 from rfl] at h1
      generalize X &&& (18446744073709551615 - 4503599627370496)=Y at *
      have hQ':q*4503599627370496 < 2 ^ 64:=by omega
      have h2:=u64_or_nat Y (q*4503599627370496) h1' hQ'
      have h2':Y ||| (q*4503599627370496) < 2 ^ 64:=Nat.or_lt_two_pow h1' hQ'
      have hq4:(q:Int)*4503599627370496=((q*4503599627370496:Nat):Int):=by omega
      generalize hU:Y ||| (q*4503599627370496)=U at *
      generalize hQ:q*4503599627370496=Q at *
      clear hU hQ hE0 hE1
      go_enter Tryz.func199,Tryz.ntmps199
      go_wp2_with (first | simp only [f64from] | fail)
      go_ret2
      exact ⟨⟨_,_,rfl,h2',Or.inl rfl⟩,rfl⟩
end Go.Proofs.YtifapjammoahgaaGreatDoor.Rl
/- parseFloat64 AT ALL DIGITS: it answers something. Own work of the verifier. -/
set_option maxRecDepth 100000
set_option maxHeartbeats 4000000
namespace Go.Proofs.YtifapjammoahgaaGreatDoor.Rl
open Go.RowKit Go.Sort
theorem parse64_some (n:Bool) (d b:Nat) (p e:Int) (hd:d < 18446744073709551616) (hd1:1≤d) (hb:Lib.bitLen d=b) (hb1:1≤b) (hb64:b≤64) (hp0:-345≤p) (hp1:p≤310) (he:eP b p=e) (hx:d*2 ^ (64 - b) < 18446744073709551616)
    (w:World) (hg:7 < w.heap.size) (hT:Pow w) :
    Calls Tryz.prog 192 #[.int .u64 (d:Int),.int .i64 p,.int .u64 ((sgnN n:Nat):Int)] w fun r w'=>TellsE r∧Below w.heap.size w w':=by
  obtain ⟨hl0,hl1⟩:=l2_bounds p (by omega) (by omega)
  have hsn:sgnN n < 18446744073709551616:=by unfold sgnN;split <;> omega
  have HL:Hid (∀ W,Calls Tryz.prog 108 #[.int .u64 (d:Int)] W fun r w'=>r=.returned (.int .i64 (b:Int))∧w'=W):=by
    intro W
    have h:=Tryz.bits_Len64 (d:Int) W (by omega) (by omega)
    rw [Int.toNat_natCast,hb] at h
    exact h
  have hor:bits .or .u64 ((sgnN n:Nat):Int) 0=((sgnN n:Nat):Int):=by cases n <;> decide +kernel
  have HOr:Hid (∀ M:Nat,M < 18446744073709551616→∃ X:Nat,X < 18446744073709551616∧bits .or .u64 ((sgnN n:Nat):Int) (M:Int)=(X:Int)):=fun M hM=>⟨_,or_lt hsn hM,u64_or_nat (sgnN n) M hsn hM⟩
  have he':min 1074 (53 - (b:Int) - l2 p)=e:=by rw [← he];rfl
  have he0:-1180≤e:=by omega
  have he1:e≤1074:=by omega
  obtain ⟨x,hx'⟩:∃ x,d*2 ^ (64 - b)=x:=⟨_,rfl⟩
  obtain ⟨c,hc⟩:∃ c:Nat,64 - b=c:=⟨_,rfl⟩
  have hcI:64 - (b:Int)=(c:Int):=by omega
  rw [hc] at hx'
  have hxi:(d:Int)*2 ^ c=(x:Int):=by rw [mul_cast,hx']
  rw [hc,hx'] at hx
  generalize sgnN n=SG at *
  have hs8:8≤-(e - (c:Int)+l2 p+3):=by omega
  clear hb he hx'
  go_enter Tryz.func192,Tryz.ntmps192
  go_wp2_with (first
    | (go_at_call 108;with_reducible refine (HL.out _).mono ?_;rintro r w ⟨rfl,rfl⟩)
    | (go_at_call 146;with_reducible refine (log2Pow10_any p (by omega) (by omega) _).mono ?_;rintro r w ⟨rfl,rfl⟩)
    | fail)
  refine (prescale_any _ (e - (c:Int)) p (l2 p) (by omega) (by omega) (by omega) (by omega) (by omega) (by omega) _ (by simp;omega) (pow_alloc hT hg _) (.int .u64 0) (.int .u64 0) (.int .i64 0) (by simp [go_sem]) (by simp [go_sem]) (by simp [go_sem]) (by simp [go_sem]) (by simp [go_sem]) (by simp [go_sem])).mono ?_
  rintro r w1 ⟨rfl,hw1⟩
  have hb1':Below w.heap.size w w1:=by
    rw [hw1];exact (((bel1 w _).setCell (Nat.le_refl _) _).setCell (Nat.le_refl _) _).setCell (Nat.le_refl _) _
  have c0:w1.cell? ⟨w.heap.size,0,none⟩=some (.int .u64 (tabHi (p+348).toNat:Int)):=by rw [hw1];simp [go_sem]
  have c1:w1.cell? ⟨w.heap.size,1,none⟩=some (.int .u64 (tabLo (p+348).toNat:Int)):=by rw [hw1];simp [go_sem]
  have c2:w1.cell? ⟨w.heap.size,2,none⟩=some (.int .i64 (-(e - (c:Int)+l2 p+3))):=by rw [hw1];simp [go_sem]
  clear hw1
  have ht:=tab_fit (p+348).toNat (by omega)
  have HU1:Hid (∃ u:Nat,u < 18446744073709551616∧Calls Tryz.prog 147 #[.int .u64 (x:Int),.pointer (some ⟨w.heap.size,0,none⟩)] w1 fun r w'=>r=.returned (.int .u64 (u:Int))∧Below w1.heap.size w1 w') :=
    ⟨_,usc_lt _ _ _ _ hx ht.1,uscale_any x _ _ _ hx ht.1 ht.2 _ w1 c0 c1 c2⟩
  obtain ⟨sv,hsv⟩:∃ sv:Int,sv=-(e - (c:Int)+l2 p+3):=⟨_,rfl⟩
  rw [← hsv] at c2 hs8
  clear c0 c1 hsv ht
  by_cases hs64:64≤sv
  · as_aux_lemma =>
      go_wp2_with (first | simp only [f64from] | fail)
      go_ret2
      exact ⟨⟨_,_,rfl,hsn,Or.inl rfl⟩,hb1'⟩
  · obtain ⟨u,hu,hcall⟩:=HU1.out
    have HU2:Hid (Calls Tryz.prog 147 #[.int .u64 (x:Int),.pointer (some ⟨w.heap.size,0,none⟩)] w1 fun r w'=>r=.returned (.int .u64 (u:Int))∧Below w1.heap.size w1 w'):=hcall
    clear hcall HU1
    go_wp2_with fail
    refine Calls.mono HU2.out ?_
    rintro r w2 ⟨rfl,hb2⟩
    have hbw:Below w.heap.size w w2:=hb1'.trans (hb2.mono hb1'.size)
    have hand:=and_one u hu
    have HC:Hid _:=cut_or u hu
    have HS:Hid _:=same_or u hu
    have hc1:cut1 u≤u:=by rw [cut1_val];split <;> omega
    clear c2 hs64 HU2
    rcases Nat.lt_or_ge u 36028797018963966 with hk | hk
    · have HB2:Hid (∀ W,Calls Tryz.prog 152 #[.bool (decide ((36028797018963966:Int)≤(u:Int)))] W fun r w'=>r=.returned (.int .i64 0)∧w'=W):=by
        intro W
        rw [decide_eq_false (by omega)]
        exact bool2_int _ W
      have hR:=round_any u hu
      have hm:(u+1+u / 4 % 2) % 18446744073709551616 / 4 < 18446744073709551616:=by omega
      generalize (u+1+u / 4 % 2) % 18446744073709551616 / 4=m at *
      obtain ⟨X,hX,hO⟩:=HOr.out m hm
      have HR:Hid _:=hR
      have HP:Hid _:=fun W=>pack_some X (-e) hX (by omega) (by omega) W
      have hS:=HS.out
      clear hR HC HS HOr
      go_wp2_with (first
        | (go_at_call 153;with_reducible refine (unmin53 _).mono ?_;rintro r w2 ⟨rfl,rfl⟩)
        | (go_at_call 152;with_reducible refine (HB2.out _).mono ?_;rintro r w2 ⟨rfl,rfl⟩)
        | (go_at_call 151;with_reducible refine (HR.out _).mono ?_;rintro r w2 ⟨rfl,rfl⟩)
        | fail)
      refine (HP.out _).mono ?_
      rintro r w3 ⟨⟨f,v,rfl,hf,hv⟩,rfl⟩
      have HV:Hid _:=hv
      clear hv
      go_wp2_with fail
      go_ret2
      exact ⟨⟨_,_,rfl,hf,HV.out⟩,hbw⟩
    · have HB2:Hid (∀ W,Calls Tryz.prog 152 #[.bool (decide ((36028797018963966:Int)≤(u:Int)))] W fun r w'=>r=.returned (.int .i64 1)∧w'=W):=by
        intro W
        rw [decide_eq_true (by omega)]
        exact bool2_int _ W
      have hR:=round_any (cut1 u) (by omega)
      have hm:(cut1 u+1+cut1 u / 4 % 2) % 18446744073709551616 / 4 < 18446744073709551616:=by omega
      generalize (cut1 u+1+cut1 u / 4 % 2) % 18446744073709551616 / 4=m at *
      obtain ⟨X,hX,hO⟩:=HOr.out m hm
      have HR:Hid _:=hR
      have HP:Hid _:=fun W=>pack_some X (-(e - 1)) hX (by omega) (by omega) W
      have hS:=HC.out
      generalize cut1 u=v at *
      clear hR HC HS HOr
      go_wp2_with (first
        | (go_at_call 153;with_reducible refine (unmin53 _).mono ?_;rintro r w2 ⟨rfl,rfl⟩)
        | (go_at_call 152;with_reducible refine (HB2.out _).mono ?_;rintro r w2 ⟨rfl,rfl⟩)
        | (go_at_call 151;with_reducible refine (HR.out _).mono ?_;rintro r w2 ⟨rfl,rfl⟩)
        | fail)
      refine (HP.out _).mono ?_
      rintro r w3 ⟨⟨f,v',rfl,hf,hv⟩,rfl⟩
      have HV:Hid _:=hv
      clear hv
      go_wp2_with fail
      go_ret2
      exact ⟨⟨_,_,rfl,hf,HV.out⟩,hbw⟩
end Go.Proofs.YtifapjammoahgaaGreatDoor.Rl
/- atof64exact AT ALL DIGITS: it answers something. Own work of the verifier. -/
namespace Go.Proofs.YtifapjammoahgaaGreatDoor.Rl
open Go.RowKit Go.Sort Soft
theorem mul_some (s:Bool) (a b:Nat) (ha:a < 9218868437227405312) (hb:b < 9218868437227405312):∃ r,Ieee.double.mul (sw s a) (sw false b)=some r∧r < 18446744073709551616:=by
  unfold Ieee.Format.mul
  rw [read_sw s a ha,read_sw false b hb]
  exact ⟨_,rfl,Ieee.Format.nearest_lt _ _ _ _⟩
theorem div_some (s:Bool) (a b:Nat) (ha:a < 9218868437227405312) (hb:b < 9218868437227405312) (hn:magOf b≠0):∃ r,Ieee.double.div (sw s a) (sw false b)=some r∧r < 18446744073709551616:=by
  unfold Ieee.Format.div
  rw [read_sw s a ha,read_sw false b hb]
  unfold Ieee.Datum.quotient
  simp only
  rw [if_neg hn]
  exact ⟨_,rfl,Ieee.Format.nearest_lt _ _ _ _⟩
theorem exact_some (n:Bool) (d:Nat) (p:Int) (hd:d < 18446744073709551616) (hd1:1≤d) (hp0:-1000≤p) (hp1:p≤1000):∃ F,F < 18446744073709551616∧∀ (w:World),Glob w→P10F w →
    Calls Tryz.prog 191 #[.int .u64 (d:Int),.int .i64 p,.bool n] w fun r w'=>TellsF F r∧w'=w:=by
  have key:∃ F,F < 18446744073709551616∧(d < 4503599627370496→p=0→sw n (nrung (d*UN))=F) ∧
      (∀ k:Nat,d < 4503599627370496→p=(k:Int)→0 < k→k≤22→over (sw n (nrung (d*UN)))=false→floatBits .mul .f64 (sw n (nrung (d*UN))) (tenW k)=some F) ∧
      (∀ j:Nat,d < 4503599627370496→p=(j:Int)+22→0 < j→j≤15→∃ g,floatBits .mul .f64 (sw n (nrung (d*UN))) (tenW j)=some g∧(over g=false→floatBits .mul .f64 g (tenW 22)=some F)) ∧
      (∀ k:Nat,d < 4503599627370496→p=-(k:Int)→0 < k→k≤22→floatBits .quo .f64 (sw n (nrung (d*UN))) (tenW k)=some F):=by
    by_cases hlt:d < 4503599627370496
    · have hr:=int_rung d (by omega)
      rcases Int.lt_trichotomy p 0 with hp | hp | hp
      · by_cases hp22:-22≤p
        · obtain ⟨k,rfl⟩:∃ k:Nat,p=-(k:Int):=⟨(-p).toNat,by omega⟩
          have ht:=ten_ok k (by omega)
          have hm:=(up_ge ht.2 (Nat.pow_pos (by decide))).2
          obtain ⟨F,hF,hF'⟩:=div_some n (nrung (d*UN)) (tenW k) hr.2 ht.1 (by omega)
          refine ⟨F,hF',fun _ h=>by omega,fun j _ h=>by omega,fun j _ h=>by omega,fun j _ h _ _=>?_⟩
          obtain rfl:j=k:=by omega
          exact hF
        · exact ⟨0,by decide,fun _ h=>by omega,fun j _ h=>by omega,fun j _ h=>by omega,fun j _ h=>by omega⟩
      · subst hp
        exact ⟨_,sw_lt n (by omega),fun _ _=>rfl,fun j _ h=>by omega,fun j _ h=>by omega,fun j _ h=>by omega⟩
      · by_cases hp22:p≤22
        · obtain ⟨k,rfl⟩:∃ k:Nat,p=(k:Int):=⟨p.toNat,by omega⟩
          have ht:=ten_ok k (by omega)
          obtain ⟨F,hF,hF'⟩:=mul_some n (nrung (d*UN)) (tenW k) hr.2 ht.1
          refine ⟨F,hF',fun _ h=>by omega,fun j _ h _ _ _=>?_,fun j _ h=>by omega,fun j _ h=>by omega⟩
          obtain rfl:j=k:=by omega
          exact hF
        · by_cases hp37:p≤37
          · obtain ⟨j,rfl⟩:∃ j:Nat,p=(j:Int)+22:=⟨(p - 22).toNat,by omega⟩
            have ht:=ten_ok j (by omega)
            have ht':=ten_ok 22 (by decide)
            have hm:=mul_exact n (nrung (d*UN)) (tenW j) d (10 ^ j) hr.2 ht.1 hr.1 ht.2 hd1 (Nat.pow_pos (by decide))
            rcases Nat.lt_or_ge 1000000000000000 (d*10 ^ j) with c | c
            · refine ⟨0,by decide,fun _ h=>by omega,fun i _ h=>by omega,fun i _ h _ _=>?_,fun i _ h=>by omega⟩
              obtain rfl:i=j:=by omega
              exact ⟨_,hm,fun ho=>by rw [over_big n _ c] at ho;cases ho⟩
            · have hr':=int_rung (d*10 ^ j) (by omega)
              obtain ⟨F,hF,hF'⟩:=mul_some n (nrung (d*10 ^ j*UN)) (tenW 22) hr'.2 ht'.1
              refine ⟨F,hF',fun _ h=>by omega,fun i _ h=>by omega,fun i _ h _ _=>?_,fun i _ h=>by omega⟩
              obtain rfl:i=j:=by omega
              exact ⟨_,hm,fun _=>hF⟩
          · exact ⟨0,by decide,fun _ h=>by omega,fun j _ h=>by omega,fun j _ h=>by omega,fun j _ h=>by omega⟩
    · exact ⟨0,by decide,fun h=>absurd h hlt,fun _ h=>absurd h hlt,fun _ h=>absurd h hlt,fun _ h=>absurd h hlt⟩
  obtain ⟨F,hF,k0,k1,k2,k3⟩:=key
  refine ⟨F,hF,fun w hGl hP=>exact_gen n d (sw false (nrung (d*UN))) (sw n (nrung (d*UN))) F p hd hp0 hp1 (fun _=>near_int d hd1) (fun h=>by subst h;rfl) (fun hlt h W=>?_) k0 k1 k2 k3 w hGl hP⟩
  subst h
  have:=int_rung d (by omega)
  rw [sw_f,sw_t]
  generalize nrung (d*UN)=a at *
  exact run_neg_float _ a (by omega) W
end Go.Proofs.YtifapjammoahgaaGreatDoor.Rl
/- atofHex: it answers something. Own work of the verifier. -/
set_option maxRecDepth 100000
set_option maxHeartbeats 4000000
namespace Go.Proofs.YtifapjammoahgaaGreatDoor.Rl
open Go.RowKit Go.Sort Soft
theorem or_oneH (m:Nat) (h:m < 18446744073709551616):∃ k:Nat,k < 18446744073709551616∧bits .or .u64 (m:Int) 1=(k:Int):=⟨m ||| 1,or_lt h (by decide),u64_or_nat m 1 h (by decide)⟩
theorem cut1_less (u:Nat) (h:2≤u):cut1 u < u:=by rw [cut1_val];split <;> omega
theorem or_bound (a b:Int):(bits .or .u64 a b).toNat < 18446744073709551616:=by
  show (IntKind.u64.wrap ((BitVec.ofInt 64 a ||| BitVec.ofInt 64 b).toNat:Int)).toNat < _
  show ((((BitVec.ofInt 64 a ||| BitVec.ofInt 64 b).toNat:Int)) % 18446744073709551616).toNat < _
  omega
def DrewOf (w W:World):Prop:=∃ q,W=w.drewN q
theorem hex_some (s:ByteArray) (M:Nat) (P:Int) (ng tr:Bool) (hM:M < 18446744073709551616) (w:World)
    (i1:w.cell? ⟨10,0,none⟩=some (.int .u64 52)) (i2:w.cell? ⟨10,1,none⟩=some (.int .u64 11)) (i3:w.cell? ⟨10,2,none⟩=some (.int .i64 (-1023)))
    (hpe:∀ q,(binOp .eql 246 (.pointer (some ⟨10,0,none⟩)) (.pointer (some ⟨9,0,none⟩))).run Tryz.prog (w.drewN q)=.ok (.bool false) (w.drewN q)) :
    Calls Tryz.prog 183 #[.string s,.pointer (some ⟨10,0,none⟩),.int .u64 (M:Int),.int .i64 P,.bool ng,.bool tr] w fun r w'=>TellsE r∧DrewOf w w':=by
  go_enter Tryz.func183,Tryz.ntmps183
  go_wp2_with fail
  go_quiet (fail)
  go_upto_block 0 with fail
  go_cut [2,3] from 19 (fun mv ev W=>∃ (m:Nat) (x:Int),mv=.int .u64 (m:Int)∧m < 18446744073709551616∧ev=.int .i64 x∧W=w.drewN nq)
  case first =>
    as_aux_lemma =>
      go_wp2_with fail
      go_loopw [2,3] (fun mv ev W=>∃ (m:Nat) (x:Int),mv=.int .u64 (m:Int)∧m < 18446744073709551616∧ev=.int .i64 x∧W=w.drewN nq) (fun mv _ _=>(18014398509481984 - intOf mv).toNat)
      case atStart=>exact ⟨M,_,rfl,hM,rfl,rfl⟩
      case round =>
        obtain ⟨m,x,rfl,hm,rfl,rfl⟩:=hrel
        by_cases m0:m=0
        · subst m0
          as_aux_lemma =>
            go_wp2_with fail
            go_meet
            exact ⟨0,x,rfl,by decide,rfl,rfl⟩
        · have t0:((m:Int) != 0)=true:=by rw [bne_iff_ne];omega
          by_cases hb:m < 18014398509481984
          · have t1:((m:Int) / 18014398509481984 == 0)=true:=by rw [beq_iff_eq];omega
            as_aux_lemma =>
              go_wp2_with fail
              refine ⟨⟨m*2,_,?_,by omega,rfl,True.intro⟩,by simp [intOf];omega⟩
              congr 1
          · have t1:((m:Int) / 18014398509481984 == 0)=false:=by rw [beq_eq_false_iff_ne];omega
            as_aux_lemma =>
              go_wp2_with fail
              go_meet
              exact ⟨m,x,rfl,hm,rfl,rfl⟩
  case rest =>
  clear hM
  obtain ⟨M,x,rfl,hM,rfl,rfl⟩:=hcut
  go_upto_if 58 with fail
  go_cut [2] from 19 (fun mv W=>∃ (m:Nat),mv=.int .u64 (m:Int)∧m < 18446744073709551616∧W=w.drewN nq)
  case first =>
    obtain ⟨k,hk,hk'⟩:=or_oneH M hM
    as_aux_lemma =>
      cases tr
      · go_wp2_with fail
        go_meet
        exact ⟨M,rfl,hM,rfl⟩
      · go_wp2_with fail
        go_meet
        exact ⟨k,rfl,hk,rfl⟩
  case rest =>
  clear hM
  obtain ⟨M,rfl,hM,rfl⟩:=hcut
  have HAnd:Hid (∀ m:Nat,m < 18446744073709551616→bits .and .u64 (m:Int) 1=(m:Int) % 2∧bits .or .u64 ((m:Int) / 2) ((m:Int) % 2)=((cut1 m:Nat):Int)):=fun m hm=>⟨by rw [and_one m hm];omega,cut_or m hm⟩
  go_upto_block 2 with fail
  go_cut [2,3] from 19 (fun mv ev W=>∃ (m:Nat) (x:Int),mv=.int .u64 (m:Int)∧m < 18446744073709551616∧ev=.int .i64 x∧W=w.drewN nq)
  case first =>
    as_aux_lemma =>
      go_wp2_with fail
      go_loopw [2,3] (fun mv ev W=>∃ (m:Nat) (x:Int),mv=.int .u64 (m:Int)∧m < 18446744073709551616∧ev=.int .i64 x∧W=w.drewN nq) (fun mv _ _=>(intOf mv).toNat)
      case atStart=>exact ⟨M,_,rfl,hM,rfl,rfl⟩
      case round =>
        obtain ⟨m,x,rfl,hm,rfl,rfl⟩:=hrel
        by_cases hb:m < 36028797018963968
        · have t1:((m:Int) / 36028797018963968 != 0)=false:=by rw [bne_eq_false_iff_eq];omega
          as_aux_lemma =>
            go_wp2_with fail
            go_meet
            exact ⟨m,x,rfl,hm,rfl,rfl⟩
        · have t1:((m:Int) / 36028797018963968 != 0)=true:=by rw [bne_iff_ne];omega
          obtain ⟨a1,a2⟩:=HAnd.out m hm
          have HLs:Hid _:=cut1_less m (by omega)
          as_aux_lemma =>
            go_wp2_with fail
            refine ⟨⟨cut1 m,_,rfl,by have:=HLs.out;omega,rfl,True.intro⟩,?_⟩
            simp only [intOf,Int.toNat_natCast]
            exact HLs.out
  case rest =>
  clear hM
  obtain ⟨M,x,rfl,hM,rfl,rfl⟩:=hcut
  go_upto_block 4 with fail
  go_cut [2,3] from 19 (fun mv ev W=>∃ (m:Nat) (x:Int),mv=.int .u64 (m:Int)∧m < 18446744073709551616∧ev=.int .i64 x∧W=w.drewN nq)
  case first =>
    as_aux_lemma =>
      go_wp2_with fail
      go_loopw [2,3] (fun mv ev W=>∃ (m:Nat) (x:Int),mv=.int .u64 (m:Int)∧m < 18446744073709551616∧ev=.int .i64 x∧W=w.drewN nq) (fun mv _ _=>(intOf mv).toNat)
      case atStart=>exact ⟨M,_,rfl,hM,rfl,rfl⟩
      case round =>
        obtain ⟨m,x,rfl,hm,rfl,rfl⟩:=hrel
        by_cases hb:1 < m
        · have t1:(1:Int) < (m:Int):=by omega
          by_cases hx:x < -1024
          · obtain ⟨a1,a2⟩:=HAnd.out m hm
            have HLs:Hid _:=cut1_less m (by omega)
            as_aux_lemma =>
              go_wp2_with fail
              refine ⟨⟨cut1 m,_,rfl,by have:=HLs.out;omega,rfl,True.intro⟩,?_⟩
              simp only [intOf,Int.toNat_natCast]
              exact HLs.out
          · as_aux_lemma =>
              go_wp2_with fail
              go_meet
              exact ⟨m,x,rfl,hm,rfl,rfl⟩
        · have t1:¬ (1:Int) < (m:Int):=by omega
          as_aux_lemma =>
            go_wp2_with fail
            go_meet
            exact ⟨m,x,rfl,hm,rfl,rfl⟩
  case rest =>
  clear hM
  obtain ⟨M,x,rfl,hM,rfl,rfl⟩:=hcut
  go_upto_if 103 with fail
  go_cut [2,3] from 19 (fun mv ev W=>∃ (m:Nat) (x:Int),mv=.int .u64 (m:Int)∧m < 18446744073709551616∧ev=.int .i64 x∧W=w.drewN nq)
  case first =>
    as_aux_lemma =>
      go_wp2_with fail
      all_goals (go_meet;first | exact ⟨(M / 4+1) / 2,_,congrArg (Value.int .u64) (by omega),by omega,rfl,rfl⟩ | exact ⟨M / 4+1,_,congrArg (Value.int .u64) (by omega),by omega,rfl,rfl⟩ | exact ⟨M / 4,_,congrArg (Value.int .u64) (by omega),by omega,rfl,rfl⟩)
  case rest =>
  obtain ⟨R,hR⟩:∃ R,R=bits BinOp.or IntKind.u64 (bits BinOp.and IntKind.u64 (M:Int) 3) (bits BinOp.and IntKind.u64 ((M:Int) / 4) 1):=⟨_,rfl⟩
  rw [← hR]
  clear hM hR
  obtain ⟨M,x,rfl,hM,rfl,rfl⟩:=hcut
  go_upto_if 124 with fail
  go_cut [3] from 19 (fun ev W=>∃ (x:Int),ev=.int .i64 x∧W=w.drewN nq)
  case first =>
    as_aux_lemma =>
      go_wp2_with fail
      all_goals (go_meet;exact ⟨_,rfl,rfl⟩)
  case rest =>
  obtain ⟨x,rfl,rfl⟩:=hcut
  go_upto_if 131 with fail
  go_cut [2,3,17] from 19 (fun mv ev er W=>∃ (m:Nat) (x:Int),mv=.int .u64 (m:Int)∧m < 18446744073709551616∧ev=.int .i64 x∧(er=.nilIface∨er=.iface 156 (.int .i64 1))∧W=w.drewN nq)
  case first =>
    as_aux_lemma =>
      go_wp2_with fail
      all_goals (go_meet;first | exact ⟨M,x,rfl,hM,rfl,Or.inl rfl,rfl⟩ | exact ⟨4503599627370496,_,rfl,by decide,rfl,Or.inr rfl,rfl⟩)
  case rest =>
  clear hM
  obtain ⟨M,x,rfl,hM,rfl,her,rfl⟩:=hcut
  have HE:Hid _:=her
  clear her
  go_wp2_with fail
  go_quiet (fail)
  cases ng
  · as_aux_lemma =>
      go_wp2_with (first | simp only [f64from] | fail)
      go_ret2
      exact ⟨⟨_,_,rfl,or_bound _ _,HE.out⟩,_,rfl⟩
  · as_aux_lemma =>
      go_wp2_with fail
      go_quiet (fail)
      go_wp2_with (first | simp only [f64from] | fail)
      go_ret2
      exact ⟨⟨_,_,rfl,or_bound _ _,HE.out⟩,_,rfl⟩
end Go.Proofs.YtifapjammoahgaaGreatDoor.Rl
/- atof64 AT EVERY TEXT: it answers something. Own work of the verifier. -/
set_option maxRecDepth 100000
set_option maxHeartbeats 4000000
namespace Go.Proofs.YtifapjammoahgaaGreatDoor.Rl
open Go.RowKit Go.Sort Soft
def ErrV (v:Value):Prop:=v=.nilIface∨v=.iface 156 (.int .i64 1)∨v=.iface 156 (.int .i64 2)
def TellsA (e:Ending):Prop:=∃ (f n:Nat) (v:Value),e=.returned (.tuple #[.float .f64 f,.int .i64 (n:Int),v])∧f < 18446744073709551616∧ErrV v
theorem parse_some (n:Bool) (d:Nat) (p:Int) (hd:d < 18446744073709551616) (hd1:1≤d) (hp0:-345≤p) (hp1:p≤310) (w:World) (hg:7 < w.heap.size) (hT:Pow w) :
    Calls Tryz.prog 192 #[.int .u64 (d:Int),.int .i64 p,.int .u64 ((sgnN n:Nat):Int)] w fun r w'=>TellsE r∧Below w.heap.size w w':=by
  obtain ⟨b1,b2,b3⟩:=len_bounds d hd (by omega)
  have b64:Lib.bitLen d≤64:=by
    rcases Nat.lt_or_ge (Lib.bitLen d) 65 with h | h
    · omega
    · have:2 ^ 64≤2 ^ (Lib.bitLen d - 1):=Nat.pow_le_pow_right (by decide) (by omega)
      omega
  have hxx:d*2 ^ (64 - Lib.bitLen d) < 18446744073709551616:=by
    have:=Nat.mul_lt_mul_of_pos_right b3 (show 0 < 2 ^ (64 - Lib.bitLen d) from Nat.pow_pos (by decide))
    rw [← Nat.pow_add,show Lib.bitLen d+(64 - Lib.bitLen d)=64 from by omega] at this
    exact this
  exact parse64_some n d _ p _ hd hd1 rfl b1 b64 hp0 hp1 rfl hxx w hg hT
theorem CheatB.mono {g g':Nat} {w:World} (h:CheatB g w) (hg:g≤g'):CheatB g' w:=by
  obtain ⟨h0,b,o,c,h1,h2,h3⟩:=h
  exact ⟨by omega,b,o,c,by omega,h2,h3⟩
theorem InfoB.mono {g g':Nat} {w:World} (h:InfoB g w) (hg:g≤g'):InfoB g' w:=by
  obtain ⟨b,o,c,h1,h2,h3⟩:=h.pow
  exact ⟨by have:=h.gi;omega,by have:=h.gp;omega,h.m52,h.e11,h.bias,b,o,c,by omega,h2,h3⟩
theorem zeros_dec:Tryz.zeroCells177=Array.replicate 800 (.int .u8 0)++#[.int .i64 0,.int .i64 0,.bool false,.bool false]:=by kernel_rfl
theorem dec_new (W:World):DecAt W.heap.size (fun _=>0) 0 0 false false (W.alloc (.cells Tryz.zeroCells177 177)):=by
  have hc:∀ i,(W.alloc (.cells Tryz.zeroCells177 177)).cell? ⟨W.heap.size,i,none⟩=(Tryz.zeroCells177)[i]?:=fun i=>by
    generalize Tryz.zeroCells177=z
    simp [go_sem]
  have hr:∀ (a:Array Value) (i:Nat),a.size=800→∀ b:Array Value,(a++b)[800+i]? =b[i]?:=fun a i ha b=>by
    rw [Array.getElem?_append_right (by omega),ha,Nat.add_sub_cancel_left]
  have hs:(Array.replicate 800 (Value.int .u8 0)).size=800:=Array.size_replicate
  refine ⟨fun i hi=>?_,?_,?_,?_,?_,fun o=>?_⟩
  · rw [hc,zeros_dec,Array.getElem?_append_left (by rw [hs];exact hi),Array.getElem?_replicate,if_pos hi];rfl
  · rw [hc,zeros_dec];exact hr _ 0 hs _
  · rw [hc,zeros_dec];exact hr _ 1 hs _
  · rw [hc,zeros_dec];exact hr _ 2 hs _
  · rw [hc,zeros_dec];exact hr _ 3 hs _
  · generalize Tryz.zeroCells177=z
    simp [go_sem]
structure GlobR (w:World):Prop where
  glob:Glob w
  p10:P10F w
  ch:CheatB w.heap.size w
  inf:InfoB w.heap.size w
  eq:∀ q,(binOp .eql 246 (.pointer (some ⟨10,0,none⟩)) (.pointer (some ⟨9,0,none⟩))).run Tryz.prog (w.drewN q)=.ok (.bool false) (w.drewN q)
theorem atof_some (l:List UInt8) (hl:l.length≤25) (w:World) (hG:GlobR w) (hR:∀ W,Calls Tryz.prog 182 #[.string ⟨l.toArray⟩] W fun e w'=>TellsR l e∧w'=W) :
    Calls Tryz.prog 169 #[.string ⟨l.toArray⟩] w fun e w'=>TellsA e∧Below w.heap.size w w':=by
  have HS:Hid _:=fun W=>special_any l hl W
  have HR:Hid _:=hR
  have HG:Hid _:=hG
  have ho:=hG.glob.opt
  clear hR hG
  go_enter Tryz.func169,Tryz.ntmps169
  go_wp2_with fail
  refine (HS.out _).mono ?_
  rintro e w1 ⟨⟨f,k,ok,rfl,hf,hk⟩,rfl⟩
  clear HS
  cases ok
  · go_wp2_with fail
    refine (HR.out _).mono ?_
    rintro e w1 ⟨⟨M,x,ng,tr,hx,i,ok,rfl,hM,hM2,hx0,hx1,hi⟩,rfl⟩
    clear HR hk hf
    cases ok
    · as_aux_lemma =>
        go_wp2_with fail
        go_ret3
        exact ⟨⟨0,i,_,rfl,by decide,Or.inr (Or.inr rfl)⟩,Below.refl _ _⟩
    · have hi':(i:Int)≤(l.length:Int):=by omega
      have hu:(l.length:Int)≤25:=by omega
      cases hx
      · have hM2':=hM2 rfl
        have hsg:IntKind.u64.wrap (((b2n ng:Nat):Int)*9223372036854775808)=((sgnN ng:Nat):Int):=by cases ng <;> decide
        have hor:bits .or .u64 ((sgnN ng:Nat):Int) 0=((sgnN ng:Nat):Int):=by cases ng <;> decide +kernel
        have hor2:bits .or .u64 ((sgnN ng:Nat):Int) 9218868437227405312=((sgnN ng+9218868437227405312:Nat):Int):=by cases ng <;> decide +kernel
        have hsn:sgnN ng+9218868437227405312 < 18446744073709551616:=by cases ng <;> decide
        by_cases hM0:M=0
        · subst hM0
          as_aux_lemma =>
            go_wp2_with (first
              | (go_at_call 174;with_reducible refine (bool2_u64 _ _).mono ?_;rintro e w1 ⟨rfl,rfl⟩)
              | simp only [f64from]
              | fail)
            go_ret3
            exact ⟨⟨sgnN ng,i,_,rfl,by omega,Or.inl rfl⟩,Below.refl _ _⟩
        · have hMz:((M:Int) == 0)=false:=by rw [beq_eq_false_iff_ne];omega
          by_cases h310:310 < x
          · as_aux_lemma =>
              go_wp2_with (first
                | (go_at_call 174;with_reducible refine (bool2_u64 _ _).mono ?_;rintro e w1 ⟨rfl,rfl⟩)
                | simp only [f64from]
                | fail)
              go_ret3
              exact ⟨⟨_,i,_,rfl,hsn,Or.inr (Or.inl rfl)⟩,Below.refl _ _⟩
          · by_cases h345:x < -345
            · as_aux_lemma =>
                go_wp2_with (first
                  | (go_at_call 174;with_reducible refine (bool2_u64 _ _).mono ?_;rintro e w1 ⟨rfl,rfl⟩)
                  | simp only [f64from]
                  | fail)
                go_ret3
                exact ⟨⟨sgnN ng,i,_,rfl,by omega,Or.inl rfl⟩,Below.refl _ _⟩
            · have HPs:Hid (∀ W,Below w1.heap.size w1 W→Calls Tryz.prog 192 #[.int .u64 (M:Int),.int .i64 x,.int .u64 ((sgnN ng:Nat):Int)] W fun r w'=>TellsE r∧Below W.heap.size W w'):=fun W hW=>parse_some ng M x hM (by omega) (by omega) (by omega) W (by have:=hW.size;have:=lt_of_cell (HG.out.glob.pow 0 (by decide)).1;omega) (HG.out.glob.pow.below hW)
              cases tr
              · obtain ⟨F,hF,hX⟩:=exact_some ng M x hM (by omega) (by omega) (by omega)
                have HX:Hid _:=hX
                clear hX
                go_wp2_with (first
                  | (go_at_call 174;with_reducible refine (bool2_u64 _ _).mono ?_;rintro e w2 ⟨rfl,rfl⟩)
                  | fail)
                refine (HX.out _ HG.out.glob HG.out.p10).mono ?_
                rintro e w2 ⟨⟨f2,ok2,rfl,hok2⟩,rfl⟩
                have HOK:Hid _:=hok2
                clear hok2
                cases ok2
                · as_aux_lemma =>
                    go_wp2_with fail
                    refine (HPs.out _ (Below.refl _ _)).mono ?_
                    rintro e w3 ⟨⟨f3,v3,rfl,hf3,hv3⟩,hb3⟩
                    have HV:Hid (ErrV v3):=hv3.elim Or.inl (fun h=>Or.inr (Or.inl h))
                    clear hv3
                    go_wp2_with fail
                    go_ret3
                    exact ⟨⟨f3,i,v3,rfl,hf3,HV.out⟩,hb3⟩
                · as_aux_lemma =>
                    go_wp2_with fail
                    go_ret3
                    exact ⟨⟨f2,i,_,rfl,by rw [HOK.out (by first | rfl | trivial)];exact hF,Or.inl rfl⟩,Below.refl _ _⟩
              · have HPt:Hid (∀ W,Below w1.heap.size w1 W→Calls Tryz.prog 192 #[.int .u64 ((M:Int)+1),.int .i64 x,.int .u64 ((sgnN ng:Nat):Int)] W fun r w'=>TellsE r∧Below W.heap.size W w'):=fun W hW=>parse_some ng (M+1) x (by omega) (by omega) (by omega) (by omega) W (by have:=hW.size;have:=lt_of_cell (HG.out.glob.pow 0 (by decide)).1;omega) (HG.out.glob.pow.below hW)
                go_wp2_with (first
                  | (go_at_call 174;with_reducible refine (bool2_u64 _ _).mono ?_;rintro e w2 ⟨rfl,rfl⟩)
                  | fail)
                refine (HPs.out _ (Below.refl _ _)).mono ?_
                rintro e w3 ⟨⟨f3,v3,rfl,hf3,hv3⟩,hb3⟩
                have HV:Hid (ErrV v3):=hv3.elim Or.inl (fun h=>Or.inr (Or.inl h))
                clear hv3
                go_wp2_with fail
                refine (HPt.out _ hb3).mono ?_
                rintro e w4 ⟨⟨f4,v4,rfl,hf4,hv4⟩,hb4⟩
                have HB4:Hid (Below w2.heap.size w2 w4):=hb3.trans (hb4.mono hb3.size)
                clear hv4 hb3 hb4 HPs HPt
                have HSet:Hid (Calls Tryz.prog 188 #[.pointer (some ⟨w4.heap.size,0,none⟩),.string ((ByteArray.mk l.toArray).extract 0 i)] (w4.alloc (.cells Tryz.zeroCells177 177)) fun e w'=>SetTo w4.heap.size (w4.alloc (.cells Tryz.zeroCells177 177)) e w'):=by
                  rw [take_bytes]
                  exact set_some (l.take i) (by rw [List.length_take];omega) _ _ _ _ _ (dec_new w4)
                have HBa:Hid (Below w4.heap.size w4 (w4.alloc (.cells Tryz.zeroCells177 177))):=bel1 w4 _
                go_wp2_with fail
                · as_aux_lemma =>
                    go_ret3
                    exact ⟨⟨f3,i,v3,rfl,hf3,HV.out⟩,HB4.out⟩
                · refine Calls.mono HSet.out ?_
                  rintro e w5 ⟨b,n,dp,rfl,hd0,hd1,hD⟩
                  obtain ⟨D,ng',tr',hDec,hGd,hb5⟩:=hD
                  have HB5:Hid (Below w4.heap.size w4 w5):=HBa.out.trans hb5
                  have HB6:Hid (Below w2.heap.size w2 w5):=HB4.out.trans (HB5.out.mono HB4.out.size)
                  have HBits:Hid (Calls Tryz.prog 189 #[.pointer (some ⟨w4.heap.size,0,none⟩),.pointer (some ⟨10,0,none⟩)] w5 fun e w'=>TellsW e∧Below w4.heap.size w5 w') :=
                    bits_some w4.heap.size D n dp ng' tr' hGd w5 hDec ((HG.out.ch.below HB6.out).mono HB4.out.size) ((HG.out.inf.below HB6.out).mono HB4.out.size)
                  clear hDec hGd hb5 HSet HBa hd0 hd1
                  cases b
                  · as_aux_lemma =>
                      go_wp2_with fail
                      go_ret3
                      exact ⟨⟨0,i,_,rfl,by decide,Or.inr (Or.inr rfl)⟩,HB6.out⟩
                  · go_wp2_with fail
                    refine Calls.mono HBits.out ?_
                    rintro e w7 ⟨⟨v7,o7,rfl,hv7⟩,hb7⟩
                    have HB7:Hid (Below w2.heap.size w2 w7):=HB6.out.trans (hb7.mono HB4.out.size)
                    clear hb7 HBits
                    cases o7
                    · as_aux_lemma =>
                        go_wp2_with (first | simp only [f64from] | fail)
                        go_ret3
                        exact ⟨⟨v7,i,_,rfl,hv7,Or.inl rfl⟩,HB7.out⟩
                    · as_aux_lemma =>
                        go_wp2_with (first | simp only [f64from] | fail)
                        go_ret3
                        exact ⟨⟨v7,i,_,rfl,hv7,Or.inr (Or.inl rfl)⟩,HB7.out⟩
      · have i1:=HG.out.inf.m52
        have i2:=HG.out.inf.e11
        have i3:=HG.out.inf.bias
        have HH:Hid (∀ s,Calls Tryz.prog 183 #[.string s,.pointer (some ⟨10,0,none⟩),.int .u64 (M:Int),.int .i64 x,.bool ng,.bool tr] w1 fun r w'=>TellsE r∧DrewOf w1 w'):=fun s=>hex_some s M x ng tr hM w1 i1 i2 i3 HG.out.eq
        clear i1 i2 i3
        as_aux_lemma =>
          go_wp2_with fail
          refine (HH.out _).mono ?_
          rintro e w3 ⟨⟨f3,v3,rfl,hf3,hv3⟩,q,rfl⟩
          have HV:Hid (ErrV v3):=hv3.elim Or.inl (fun h=>Or.inr (Or.inl h))
          clear hv3
          go_wp2_with fail
          go_ret3
          exact ⟨⟨f3,i,v3,rfl,hf3,HV.out⟩,Below.drewN' (Below.refl _ _) _⟩
  · as_aux_lemma =>
      go_wp2_with fail
      go_ret3
      exact ⟨⟨f,k,_,rfl,hf,Or.inl rfl⟩,Below.refl _ _⟩
end Go.Proofs.YtifapjammoahgaaGreatDoor.Rl
/- ParseFloat AND Parse AT EVERY TEXT. Own work of the verifier. -/
set_option maxRecDepth 100000
set_option maxHeartbeats 1000000
namespace Go.Proofs.YtifapjammoahgaaGreatDoor.Rl
open Go.RowKit Go.Sort Soft
def TellsP (e:Ending):Prop:=∃ (f:Nat) (v:Value),e=.returned (.tuple #[.float .f64 f,v])∧f < 18446744073709551616∧ErrV v
def TellsQ (e:Ending):Prop:=∃ (f:Nat) (v:Value),e=.returned (.tuple #[.float .f64 f,v])∧f < 18446744073709551616∧(v=.nilIface∨∃ t x,v=.iface t x)
theorem prefix_o (T:List UInt8) (w:World) (HA:Hid (Calls Tryz.prog 169 #[.string ⟨T.toArray⟩] w fun e w'=>TellsA e∧Below w.heap.size w w')) :
    Calls Tryz.prog 129 #[.string ⟨T.toArray⟩,.int .i64 64] w fun e w'=>TellsA e∧Below w.heap.size w w':=by
  go_enter Tryz.func129,Tryz.ntmps129
  go_wp2_with fail
  refine Calls.mono HA.out ?_
  rintro e w1 ⟨⟨f,n,v,rfl,hf,hv⟩,hb1⟩
  have HV:Hid _:=hv
  clear hv
  go_wp2
  go_ret3
  exact ⟨⟨f,n,v,rfl,hf,HV.out⟩,hb1⟩
theorem parse_o (T:List UInt8) (_hT:T.length≤25) (w:World) (HA:Hid (Calls Tryz.prog 169 #[.string ⟨T.toArray⟩] w fun e w'=>TellsA e∧Below w.heap.size w w')) :
    Calls Tryz.prog 94 #[.string ⟨T.toArray⟩,.int .i64 64] w fun e w'=>TellsP e∧Below w.heap.size w w':=by
  go_enter Tryz.func94,Tryz.ntmps94
  go_wp2_with fail
  refine (prefix_o T w HA).mono ?_
  rintro e w1 ⟨⟨f,n,v,rfl,hf,hv⟩,hb1⟩
  have HV:Hid _:=hv
  clear hv
  by_cases hn:n=T.length
  · have hn':((n:Int) != (T.length:Int))=false:=by rw [bne_eq_false_iff_eq];omega
    clear hn
    as_aux_lemma =>
      go_wp2_with fail
      go_ret2
      exact ⟨⟨f,v,rfl,hf,HV.out⟩,hb1⟩
  · have hn':((n:Int) != (T.length:Int))=true:=by rw [bne_iff_ne];omega
    clear hn
    as_aux_lemma =>
      go_wp2_with fail
      go_ret2
      exact ⟨⟨0,_,rfl,by decide,Or.inr (Or.inr rfl)⟩,hb1⟩
structure Errs (w:World):Prop where
  syn:∃ ev,w.cell? ⟨4,0,none⟩=some ev∧(ev=.nilIface∨∃ te pe,ev=.iface te pe)
  rng:∃ ev,w.cell? ⟨5,0,none⟩=some ev∧(ev=.nilIface∨∃ te pe,ev=.iface te pe)
theorem Errs.below {w w':World} (h:Errs w) (hb:Below w.heap.size w w'):Errs w':=by
  obtain ⟨e1,h1,k1⟩:=h.syn
  obtain ⟨e2,h2,k2⟩:=h.rng
  exact ⟨⟨e1,by rw [(bcell hb).1 _ _ (lt_of_cell h1),h1],k1⟩,⟨e2,by rw [(bcell hb).1 _ _ (lt_of_cell h2),h2],k2⟩⟩
theorem Parse_o (T:List UInt8) (hT:T.length≤25) (w:World) (hE:Errs w) (HA:Hid (Calls Tryz.prog 169 #[.string ⟨T.toArray⟩] w fun e w'=>TellsA e∧Below w.heap.size w w')) :
    Calls Tryz.prog 72 #[.string ⟨T.toArray⟩,.int .i64 64] w fun e w'=>TellsQ e∧Below w.heap.size w w':=by
  have hlim:(ByteArray.mk T.toArray).size≤281474976710656:=by show T.toArray.size≤_;simp;omega
  go_enter Tryz.func72,Tryz.ntmps72
  go_wp2_with fail
  refine (parse_o T hT w HA).mono ?_
  rintro e w1 ⟨⟨f,v,rfl,hf,hv⟩,hb1⟩
  have hE1:=hE.below hb1
  obtain ⟨e1,s1,k1⟩:=hE1.syn
  obtain ⟨e2,s2,k2⟩:=hE1.rng
  have HS:Hid _:=fun fn base bits=>Tryz.strconv_toError_syntax fn ⟨T.toArray⟩ base bits e1 w1 hlim s1 k1
  have HRr:Hid _:=fun fn base bits=>Tryz.strconv_toError_range fn ⟨T.toArray⟩ base bits e2 w1 hlim s2 k2
  clear hE hE1 HA s1 s2 k1 k2
  rcases hv with rfl | rfl | rfl
  · as_aux_lemma =>
      go_wp2_with fail
      go_ret2
      exact ⟨⟨f,_,rfl,hf,Or.inl rfl⟩,hb1⟩
  · as_aux_lemma =>
      go_wp2_with fail
      refine (HRr.out _ _ _).mono ?_
      rintro e w2 ⟨N,rfl,hN,hc,hb2⟩
      go_wp2_with fail
      go_ret2
      exact ⟨⟨f,_,rfl,hf,Or.inr ⟨_,_,rfl⟩⟩,hb1.trans (hb2.mono hb1.size)⟩
  · as_aux_lemma =>
      go_wp2_with fail
      refine (HS.out _ _ _).mono ?_
      rintro e w2 ⟨N,rfl,hN,hc,hb2⟩
      go_wp2_with fail
      go_ret2
      exact ⟨⟨f,_,rfl,hf,Or.inr ⟨_,_,rfl⟩⟩,hb1.trans (hb2.mono hb1.size)⟩
def TellsT (l:List UInt8) (e:Ending):Prop:=e=.returned (.tuple #[.float .f64 0,.int .i64 5])∨∃ u,e=.returned (.tuple #[.float .f64 u,.int .i64 0])∧u < 18446744073709551616∧pText u=l
theorem Parse_every (l:List UInt8) (hlen:l.length≤9223372036854775807) (w:World) (hG:Glob2 w) (hE:Errs w) (hR:GlobR w) (hrd:l.length≤25→∀ W,Calls Tryz.prog 182 #[.string ⟨l.toArray⟩] W fun e w'=>TellsR l e∧w'=W) :
    Calls Tryz.prog 51 #[.string ⟨l.toArray⟩] w fun e w'=>TellsT l e∧Below w.heap.size w w':=by
  by_cases h25:l.length≤25
  · have HA:Hid _:=Parse_o l h25 w hE (atof_some l h25 w hR (hrd h25))
    have hl:(l.length:Int)≤25:=by omega
    have HG:Hid _:=hG
    clear hG hE hR hrd
    go_enter Tryz.func51,Tryz.ntmps51
    go_wp2_with fail
    refine Calls.mono HA.out ?_
    rintro e w1 ⟨⟨u,v,rfl,hu,hv⟩,hb1⟩
    rcases hv with rfl | ⟨t,x,rfl⟩
    · go_wp2_with fail
      refine (print_all u hu w1 (HG.out.below hb1)).mono ?_
      rintro e w2 ⟨rfl,hb2⟩
      have HB:Hid _:=hb1.trans (hb2.mono hb1.size)
      clear hb1 hb2
      by_cases he:pText u=l
      · rw [he]
        have HE:Hid _:=he
        clear he
        as_aux_lemma =>
          go_wp2_with fail
          go_ret2
          exact ⟨Or.inr ⟨u,rfl,hu,HE.out⟩,HB.out⟩
      · have he':(pText u == l)=false:=by simpa using he
        generalize pText u=TU at *
        as_aux_lemma =>
          go_wp2_with fail
          go_ret2
          exact ⟨Or.inl rfl,HB.out⟩
    · as_aux_lemma =>
        go_wp2_with fail
        go_ret2
        exact ⟨Or.inl rfl,hb1⟩
  · have hl:¬ (l.length:Int)≤25:=by omega
    have hl2:(25:Int) < (l.length:Int):=by omega
    as_aux_lemma =>
      go_enter Tryz.func51,Tryz.ntmps51
      go_wp2_with fail
      go_ret2
      exact ⟨Or.inl rfl,Below.refl _ _⟩
theorem GlobR.below {w w':World} (h:GlobR w) (hb:Below w.heap.size w w') (heq:∀ q,(binOp .eql 246 (.pointer (some ⟨10,0,none⟩)) (.pointer (some ⟨9,0,none⟩))).run Tryz.prog (w'.drewN q)=.ok (.bool false) (w'.drewN q)):GlobR w' :=
  ⟨h.glob.below hb,h.p10.below hb,(h.ch.below hb).mono hb.size,(h.inf.below hb).mono hb.size,heq⟩
end Go.Proofs.YtifapjammoahgaaGreatDoor.Rl
