/- parts, against: the document's, of layer 2. Own work of the verifier. -/
import Derived.Test.YtibahfopmjiffaaGreatDoorSAK
set_option maxRecDepth 100000
set_option maxHeartbeats 2000000
namespace Go.Proofs.YtibahfopmjiffaaGreatDoor.Rl
open Go.RowKit Soft
theorem ncompare_v {W:World} {v u:Value} {M N:Nat} (h:BigAt W v M) (k:BigAt W u N) (hM:Sm M) (hN:Sm N) :
    Calls Tryz.prog 173 #[v,u] W fun e w'=>e=.returned (.int .i64 (cmpN M N))∧Below W.heap.size W w':=by
  obtain ⟨ao,b,o,cap,L,rfl,hR,rfl,hT⟩:=h
  obtain ⟨ao2,b2,o2,cap2,L2,rfl,hR2,rfl,hT2⟩:=k
  have h1:=hM.len hT rfl
  have h2:=hN.len hT2 rfl
  exact (ncompare_rows ao b o cap L ao2 b2 o2 cap2 L2 W hR hR2 hT hT2 (by omega) (by omega)).mono fun e w' ⟨he,m,hw⟩=>⟨he,by rw [hw];exact Below.drewN' (Below.refl _ _) m⟩
def AG (c:Nat) (s:Int) (l:Nat) (k:Int):Int:=cmpN (c*10 ^ s.toNat*2 ^ (-k).toNat) (l*10 ^ (-s).toNat*2 ^ k.toNat)
def Made (W:World) (N:Nat) (e:Ending) (w':World):Prop:=∃ v,e=.returned v∧Below W.heap.size W w'∧BigAt w' v N
theorem against_any (c l:Nat) (s k:Int) (hc:c < 18446744073709551616) (hl:l < 18446744073709551616) (hs0:-1100≤s) (hs1:s≤1100) (hk0:-5000≤k) (hk1:k≤5000) (w:World) :
    Calls Tryz.prog 169 #[.int .u64 (c:Int),.int .i64 s,.int .u64 (l:Int),.int .i64 k] w fun e w'=>e=.returned (.int .i64 (AG c s l k))∧Below w.heap.size w w':=by
  have HO:Hid (∀ (x:Nat) (W:World),x < 18446744073709551616→Calls Tryz.prog 170 #[.int .u64 (x:Int)] W fun e w'=>Made W x e w'):=fun x W hx=>(nof_any x hx W).mono fun e w' ⟨v,h1,h2,h3⟩=>⟨v,h1,h2,h3.big⟩
  have HT:Hid (∀ (n N:Nat) (v:Value) (W:World),n≤1100→N < 18446744073709551616→BigAt W v N→Calls Tryz.prog 172 #[v,.int .i64 (n:Int)] W fun e w'=>Made W (N*10 ^ n) e w'):=fun n N v W hn hN hv=>ntens_any n v N (by omega) W hv ((sm_of N n 0 hN hn (by omega)).le (by rw [Nat.pow_zero,Nat.mul_one];exact Nat.le_refl _)).nsh
  have HSh:Hid (∀ (n N:Nat) (v:Value) (W:World),n≤5000→Sm N→BigAt W v N→Calls Tryz.prog 171 #[v,.int .i64 (n:Int)] W fun e w'=>Made W (N*2 ^ n) e w'):=fun n N v W hn hN hv=>nshift_any n (by omega) hv hN
  have HC:Hid (∀ (M N:Nat) (v u:Value) (W:World),Sm M→Sm N→BigAt W v M→BigAt W u N→Calls Tryz.prog 173 #[v,u] W fun e w'=>e=.returned (.int .i64 (cmpN M N))∧Below W.heap.size W w'):=fun M N v u W h1 h2 h3 h4=>ncompare_v h3 h4 h1 h2
  go_enter Tryz.func169,Tryz.ntmps169
  go_wp2_with fail
  refine (HO.out c _ hc).mono ?_
  rintro e w1 ⟨v1,rfl,hb1,hB1⟩
  go_wp2_with fail
  refine (HO.out l _ hl).mono ?_
  rintro e w2 ⟨v2,rfl,hb2,hB2⟩
  have hA2:=hB1.below hb2
  have hbw:Below w.heap.size w w2:=hb1.trans (hb2.mono hb1.size)
  clear hB1 hb1 hb2 HO
  go_upto_if 16 with fail
  go_cut [9,10] from 11 (fun a b W=>Hid (BigAt W a (c*10 ^ s.toNat))∧Hid (BigAt W b (l*10 ^ (-s).toNat))∧Below w.heap.size w W)
  case first =>
    by_cases hs:0≤s
    · obtain ⟨n,rfl⟩:∃ n:Nat,s=(n:Int):=⟨s.toNat,by omega⟩
      have e1:(n:Int).toNat=n:=by omega
      have e2:(-(n:Int)).toNat=0:=by omega
      have HT':Hid _:=HT.out n c v1 w2 (by omega) hc hA2
      have HB2:Hid (BigAt w2 v2 (l*10 ^ (-(n:Int)).toNat)):=by rw [e2,Nat.pow_zero,Nat.mul_one];exact hB2
      clear hA2 hB2
      as_aux_lemma =>
        go_wp2_with fail
        refine Calls.mono HT'.out ?_
        rintro e w3 ⟨v3,rfl,hb3,hB3⟩
        have HB3:Hid (BigAt w3 v3 (c*10 ^ ((n:Int)).toNat)):=by rw [e1];exact hB3
        clear hB3
        go_wp2_with fail
        go_meet
        exact ⟨HB3,HB2.out.below hb3,hbw.trans (hb3.mono hbw.size)⟩
    · obtain ⟨n,rfl⟩:∃ n:Nat,s=-(n:Int):=⟨(-s).toNat,by omega⟩
      have e1:(-(n:Int)).toNat=0:=by omega
      have e2:(- -(n:Int)).toNat=n:=by omega
      have e3:- -(n:Int)=(n:Int):=by omega
      have HT':Hid _:=HT.out n l v2 w2 (by omega) hl hB2
      have HA2:Hid (BigAt w2 v1 (c*10 ^ (-(n:Int)).toNat)):=by rw [e1,Nat.pow_zero,Nat.mul_one];exact hA2
      clear hA2 hB2
      as_aux_lemma =>
        go_wp2_with fail
        refine Calls.mono HT'.out ?_
        rintro e w3 ⟨v3,rfl,hb3,hB3⟩
        have HB3:Hid (BigAt w3 v3 (l*10 ^ (- -(n:Int)).toNat)):=by rw [e2];exact hB3
        clear hB3
        go_wp2_with fail
        go_meet
        exact ⟨HA2.out.below hb3,HB3,hbw.trans (hb3.mono hbw.size)⟩
  case rest =>
  clear hA2 hB2 hbw HT
  obtain ⟨HA,HB,hbw⟩:=hcut
  have HSa:Hid (Sm (c*10 ^ s.toNat)∧Sm (c*10 ^ s.toNat*2 ^ (-k).toNat)):=⟨(sm_of c s.toNat 0 hc (by omega) (by omega)).le (by rw [Nat.pow_zero,Nat.mul_one];exact Nat.le_refl _),sm_of c s.toNat _ hc (by omega) (by omega)⟩
  have HSb:Hid (Sm (l*10 ^ (-s).toNat)∧Sm (l*10 ^ (-s).toNat*2 ^ k.toNat)):=⟨(sm_of l (-s).toNat 0 hl (by omega) (by omega)).le (by rw [Nat.pow_zero,Nat.mul_one];exact Nat.le_refl _),sm_of l (-s).toNat _ hl (by omega) (by omega)⟩
  obtain ⟨X,hX⟩:∃ X,X=c*10 ^ s.toNat:=⟨_,rfl⟩
  obtain ⟨Y,hY⟩:∃ Y,Y=l*10 ^ (-s).toNat:=⟨_,rfl⟩
  rw [← hX] at HA HSa
  rw [← hY] at HB HSb
  have HAG:Hid (cmpN (X*2 ^ (-k).toNat) (Y*2 ^ k.toNat)=AG c s l k):=by rw [hX,hY];rfl
  clear hX hY
  go_upto_if 25 with fail
  go_cut [9,10] from 11 (fun a b W=>Hid (BigAt W a (X*2 ^ (-k).toNat))∧Hid (BigAt W b (Y*2 ^ k.toNat))∧Below w.heap.size w W)
  case first =>
    by_cases hk:0≤k
    · obtain ⟨n,rfl⟩:∃ n:Nat,k=(n:Int):=⟨k.toNat,by omega⟩
      have e1:(n:Int).toNat=n:=by omega
      have e2:(-(n:Int)).toNat=0:=by omega
      have HT':Hid _:=HSh.out n Y u10 wc (by omega) HSb.out.1 HB.out
      have HA':Hid (BigAt wc u9 (X*2 ^ (-(n:Int)).toNat)):=by rw [e2,Nat.pow_zero,Nat.mul_one];exact HA.out
      as_aux_lemma =>
        go_wp2_with fail
        refine Calls.mono HT'.out ?_
        rintro e w3 ⟨v3,rfl,hb3,hB3⟩
        have HB3:Hid (BigAt w3 v3 (Y*2 ^ ((n:Int)).toNat)):=by rw [e1];exact hB3
        clear hB3
        go_wp2_with fail
        go_meet
        exact ⟨HA'.out.below hb3,HB3,hbw.trans (hb3.mono hbw.size)⟩
    · obtain ⟨n,rfl⟩:∃ n:Nat,k=-(n:Int):=⟨(-k).toNat,by omega⟩
      have e1:(-(n:Int)).toNat=0:=by omega
      have e2:(- -(n:Int)).toNat=n:=by omega
      have e3:- -(n:Int)=(n:Int):=by omega
      have HT':Hid _:=HSh.out n X u9 wc (by omega) HSa.out.1 HA.out
      have HB':Hid (BigAt wc u10 (Y*2 ^ (-(n:Int)).toNat)):=by rw [e1,Nat.pow_zero,Nat.mul_one];exact HB.out
      as_aux_lemma =>
        go_wp2_with fail
        refine Calls.mono HT'.out ?_
        rintro e w3 ⟨v3,rfl,hb3,hB3⟩
        have HB3:Hid (BigAt w3 v3 (X*2 ^ (- -(n:Int)).toNat)):=by rw [e2];exact hB3
        clear hB3
        go_wp2_with fail
        go_meet
        exact ⟨HB3,HB'.out.below hb3,hbw.trans (hb3.mono hbw.size)⟩
  case rest =>
  clear HA HB hbw HSh
  obtain ⟨HA,HB,hbw⟩:=hcut
  have HC':Hid _:=HC.out _ _ _ _ wc HSa.out.2 HSb.out.2 HA.out HB.out
  clear HC HSa HSb HA HB
  rw [HAG.out] at HC'
  as_aux_lemma =>
    go_wp2_with fail
    refine Calls.mono HC'.out ?_
    rintro e w3 ⟨rfl,hb3⟩
    go_wp2_with fail
    go_ret
    exact ⟨rfl,hbw.trans (hb3.mono hbw.size)⟩
end Go.Proofs.YtibahfopmjiffaaGreatDoor.Rl
/- parts, Side: the document's, of layer 2. Own work of the verifier. -/
set_option maxRecDepth 100000
set_option maxHeartbeats 2000000
namespace Go.Proofs.YtibahfopmjiffaaGreatDoor.Rl
open Go.RowKit Soft
def pM (b:Nat):Nat:=if b / 4503599627370496=0 then b else b % 4503599627370496+4503599627370496
def pK (b:Nat):Int:=if b / 4503599627370496=0 then -1074 else (b / 4503599627370496:Nat) - 1075
theorem pM_lt (b:Nat):pM b < 9007199254740992:=by unfold pM;split <;> omega
theorem pM_pos (b:Nat) (h:1≤b):1≤pM b:=by unfold pM;split <;> omega
theorem pK_low (b:Nat):-1074≤pK b:=by unfold pK;split <;> omega
theorem pK_high (b:Nat) (h:b < 9218868437227405312):pK b≤971:=by unfold pK;split <;> omega
theorem parts_any (b:Nat) (hb:b < 9218868437227405312) (w:World) :
    Calls Tryz.prog 168 #[.int .u64 (b:Int)] w fun e w'=>e=.returned (.tuple #[.int .u64 (pM b:Int),.int .i64 (pK b)])∧w'=w:=by
  have hdiv:(b:Int) / 4503599627370496=((b / 4503599627370496:Nat):Int):=by omega
  have hand:bits .and .u64 (b:Int) 4503599627370495=((b % 4503599627370496:Nat):Int):=by
    have:=u64_and_nat b 4503599627370495 (by omega) (by decide)
    rw [show (4503599627370495:Nat)=2 ^ 52 - 1 from by decide,Nat.and_two_pow_sub_one_eq_mod,show (2:Nat) ^ 52=4503599627370496 from by decide] at this
    exact this
  have hor:bits .or .u64 ((b % 4503599627370496:Nat):Int) 4503599627370496=((b % 4503599627370496+4503599627370496:Nat):Int):=by
    have:=u64_or_nat (b % 4503599627370496) 4503599627370496 (by omega) (by decide)
    rw [Nat.or_comm] at this
    rw [show (4503599627370496:Nat)=2 ^ 52*1 from by decide] at this
    rw [← Nat.two_pow_add_eq_or_of_lt (by rw [show (2:Nat) ^ 52=4503599627370496 from by decide];omega) 1] at this
    rw [show (2:Nat) ^ 52*1=4503599627370496 from by decide,Nat.add_comm 4503599627370496] at this
    exact this
  unfold pM pK
  have h1:b / 4503599627370496 < 2047:=by omega
  have h2:b % 4503599627370496 < 4503599627370496:=by omega
  have HZ:Hid (b / 4503599627370496=0→b % 4503599627370496=b):=fun h=>by omega
  generalize b / 4503599627370496=q at *
  generalize b % 4503599627370496=r at *
  rcases Nat.eq_zero_or_pos q with h0 | h0
  · subst h0
    rw [if_pos rfl,if_pos rfl]
    obtain rfl:=HZ.out rfl
    go_enter Tryz.func168,Tryz.ntmps168
    go_wp2_with fail
    go_ret2
    exact ⟨rfl,rfl⟩
  · rw [if_neg (by omega),if_neg (by omega)]
    have hq:((q:Int) == 0)=false:=by rw [beq_eq_false_iff_ne];omega
    go_enter Tryz.func168,Tryz.ntmps168
    go_wp2_with fail
    go_ret2
    exact ⟨rfl,rfl⟩
def lowM (b:Nat):Nat:=if pM b=4503599627370496∧1 < b / 4503599627370496 then 4*pM b - 1 else 4*pM b - 2
theorem lowM_lt (b:Nat):lowM b < 18446744073709551616:=by unfold lowM;have:=pM_lt b;split <;> omega
def SideN (b c:Nat) (s:Int):Int :=
  if AG c s (lowM b) (pK b - 2) < 0∨AG c s (lowM b) (pK b - 2)=0∧pM b % 2=1 then -1
  else if 0 < AG c s (4*pM b+2) (pK b - 2)∨AG c s (4*pM b+2) (pK b - 2)=0∧pM b % 2=1 then 1 else 0
theorem cmpN_cases (a b:Nat):cmpN a b=-1∨cmpN a b=0∨cmpN a b=1:=by
  unfold cmpN;split
  · exact Or.inl rfl
  · split
    · exact Or.inr (Or.inr rfl)
    · exact Or.inr (Or.inl rfl)
theorem side_any (b c : Nat) (s : Int) (hb0 : 1 ≤ b) (hb : b < 9218868437227405312) (hc : c < 18446744073709551616) (hs0 : -1100 ≤ s) (hs1 : s ≤ 1100) (w : World) :
    Calls Tryz.prog 126 #[.int .u64 (b : Int), .int .u64 (c : Int), .int .i64 s] w fun e w' => e = .returned (.int .i64 (SideN b c s)) ∧ Below w.heap.size w w' := by
  have HPa : Hid _ := fun W => parts_any b hb W
  have h1 := pM_lt b
  have h2 := pM_pos b hb0
  have h3 := pK_low b
  have h4 := pK_high b hb
  have h5 := lowM_lt b
  have HG1 : Hid _ := fun W => against_any c (lowM b) s (pK b - 2) hc h5 hs0 hs1 (by omega) (by omega) W
  have HG2 : Hid (∀ W, Calls Tryz.prog 169 #[.int .u64 (c : Int), .int .i64 s, .int .u64 (4 * (pM b : Int) + 2), .int .i64 (pK b - 2)] W fun e w' => e = .returned (.int .i64 (AG c s (4 * pM b + 2) (pK b - 2))) ∧ Below W.heap.size W w') := fun W => by
    have := against_any c (4 * pM b + 2) s (pK b - 2) hc (by omega) hs0 hs1 (by omega) (by omega) W
    rw [show ((4 * pM b + 2 : Nat) : Int) = 4 * (pM b : Int) + 2 from by omega] at this
    exact this
  have hdiv : (b : Int) / 4503599627370496 = ((b / 4503599627370496 : Nat) : Int) := by omega
  have HLo : Hid (lowM b = if pM b = 4503599627370496 ∧ 1 < b / 4503599627370496 then 4 * pM b - 1 else 4 * pM b - 2) := rfl
  have HSd : Hid (SideN b c s = if AG c s (lowM b) (pK b - 2) < 0 ∨ AG c s (lowM b) (pK b - 2) = 0 ∧ pM b % 2 = 1 then -1 else if 0 < AG c s (4 * pM b + 2) (pK b - 2) ∨ AG c s (4 * pM b + 2) (pK b - 2) = 0 ∧ pM b % 2 = 1 then 1 else 0) := rfl
  have c1 : AG c s (lowM b) (pK b - 2) = -1 ∨ AG c s (lowM b) (pK b - 2) = 0 ∨ AG c s (lowM b) (pK b - 2) = 1 := cmpN_cases _ _
  have c2 : AG c s (4 * pM b + 2) (pK b - 2) = -1 ∨ AG c s (4 * pM b + 2) (pK b - 2) = 0 ∨ AG c s (4 * pM b + 2) (pK b - 2) = 1 := cmpN_cases _ _
  have C1 : Hid _ := c1
  have C2 : Hid _ := c2
  clear c1 c2
  generalize AG c s (lowM b) (pK b - 2) = z1 at *
  generalize AG c s (4 * pM b + 2) (pK b - 2) = z2 at *
  generalize lowM b = lo at *
  generalize pM b = m at *
  generalize pK b = k at *
  generalize hq : b / 4503599627370496 = q at *
  generalize SideN b c s = SD at *
  go_enter Tryz.func126, Tryz.ntmps126
  go_wp2_with fail
  refine (HPa.out _).mono ?_
  rintro e w1 ⟨rfl, rfl⟩
  go_upto_region 3 with fail
  go_cut [26] from 12 (fun v W => ∃ bb : Bool, v = .bool bb ∧ Hid (bb = true ↔ m = 4503599627370496 ∧ 1 < q) ∧ W = w1)
  case first =>
    by_cases hm : m = 4503599627370496
    · have t1 : ((m : Int) == 4503599627370496) = true := by rw [beq_iff_eq]; omega
      have HM : Hid _ := hm
      clear hm
      as_aux_lemma =>
        go_wp2_with fail
        go_meet
        exact ⟨_, rfl, ⟨fun h => ⟨HM.out, by have := of_decide_eq_true h; omega⟩, fun h => decide_eq_true (by have := h.2; omega)⟩, rfl⟩
    · have t1 : ((m : Int) == 4503599627370496) = false := by rw [beq_eq_false_iff_ne]; omega
      as_aux_lemma =>
        go_wp2_with fail
        go_meet
        exact ⟨false, rfl, ⟨(fun h => by cases h), (fun h => absurd h.1 hm)⟩, rfl⟩
  case rest =>
  obtain ⟨bb, rfl, hbb, rfl⟩ := hcut
  go_upto_if 26 with fail
  go_cut [9] from 12 (fun v W => v = .int .u64 (lo : Int) ∧ W = wc)
  case first =>
    cases bb
    · have e : lo = 4 * m - 2 := by rw [HLo.out, if_neg (fun h => by have := hbb.out.2 h; cases this)]
      have e' : 4 * (m : Int) - 2 = (lo : Int) := by omega
      clear e
      as_aux_lemma =>
        go_wp2_with fail
        go_meet
        exact ⟨congrArg (Value.int .u64) e', rfl⟩
    · have e : lo = 4 * m - 1 := by rw [HLo.out, if_pos (hbb.out.1 rfl)]
      have e' : 4 * (m : Int) - 1 = (lo : Int) := by omega
      clear e
      as_aux_lemma =>
        go_wp2_with fail
        go_meet
        first | exact ⟨congrArg (Value.int .u64) e', rfl⟩ | exact ⟨rfl, rfl⟩
  case rest =>
  obtain ⟨rfl, rfl⟩ := hcut
  have hm2 : m % 2 = 0 ∨ m % 2 = 1 := by omega
  go_wp2_with fail
  refine (HG1.out _).mono ?_
  rintro e w2 ⟨rfl, hb2⟩
  rcases C1.out with h | h | h <;> rcases C2.out with g | g | g <;> rcases hm2 with e0 | e0 <;> (
    subst h
    subst g
    have hS := HSd.out
    simp [e0] at hS
    subst hS
    have t2 : ((m : Int) % 2) = ((m % 2 : Nat) : Int) := by omega
    rw [e0] at t2
    as_aux_lemma =>
      first
        | (go_wp2_with fail
           go_ret
           exact ⟨rfl, hb2⟩)
        | (go_wp2_with fail
           refine (HG2.out _).mono ?_
           rintro e w3 ⟨rfl, hb3⟩
           go_wp2_with fail
           go_ret
           exact ⟨rfl, hb2.trans (hb3.mono hb2.size)⟩))
end Go.Proofs.YtibahfopmjiffaaGreatDoor.Rl
/- ratio: the document's, of layer 2. Own work of the verifier. -/
set_option maxRecDepth 100000
set_option maxHeartbeats 2000000
namespace Go.Proofs.YtibahfopmjiffaaGreatDoor.Rl
open Go.RowKit Soft
theorem nless_v {W:World} {v u:Value} {M N:Nat} (h:BigAt W v M) (k:BigAt W u N) (hM:Sm M) (hle:N≤M) :
    Calls Tryz.prog 174 #[v,u] W fun e w'=>Made W (M - N) e w':=by
  obtain ⟨ao,b,o,cap,L,rfl,hR,rfl,hT⟩:=h
  obtain ⟨ao2,b2,o2,cap2,L2,rfl,hR2,rfl,hT2⟩:=k
  have h1:=hM.len hT rfl
  exact (nless_rows ao b o cap L ao2 b2 o2 cap2 L2 W hR hR2 hT2 hle (by omega)).mono fun e w' ⟨v,he,hb,hB⟩=>⟨v,he,hb,hB.big⟩
def rX (b:Nat) (s:Int):Nat:=pM b*2 ^ (pK b).toNat*10 ^ (-s).toNat
def rY (b:Nat) (s:Int):Nat:=1*2 ^ (-(pK b)).toNat*10 ^ s.toNat
def Div (X Y R Q j:Nat):Prop:=X=Q*Y+R∧R < Y*2 ^ j∧Q+2 ^ j≤9223372036854775808∧∃ c,Q=2 ^ j*c
theorem div_start {X Y:Nat} (h:X < Y*9223372036854775808):Div X Y X 0 63 :=
  ⟨by rw [Nat.zero_mul,Nat.zero_add],h,by decide,0,by rw [Nat.mul_zero]⟩
theorem div_not {X Y R Q j:Nat} (h:Div X Y R Q (j+1)) (hR:R < Y*2 ^ j):Div X Y R Q j:=by
  obtain ⟨h1,h2,h3,c,h4⟩:=h
  rw [Nat.pow_succ] at h3 h4
  exact ⟨h1,hR,by omega,2*c,by rw [h4,Nat.mul_assoc]⟩
theorem div_sub {X Y R Q j:Nat} (h:Div X Y R Q (j+1)) (hR:Y*2 ^ j≤R):Div X Y (R - Y*2 ^ j) (Q+2 ^ j) j:=by
  obtain ⟨h1,h2,h3,c,h4⟩:=h
  rw [Nat.pow_succ] at h2 h3 h4
  refine ⟨?_,?_,by omega,2*c+1,?_⟩
  · rw [Nat.add_mul,Nat.mul_comm (2 ^ j) Y];omega
  · rw [← Nat.mul_assoc] at h2;omega
  · rw [h4,Nat.mul_add,Nat.mul_one,Nat.mul_assoc]
theorem div_or {X Y R Q j:Nat} (h:Div X Y R Q (j+1)):Q ||| 2 ^ j=Q+2 ^ j:=by
  obtain ⟨h1,h2,h3,c,h4⟩:=h
  rw [h4,Nat.two_pow_add_eq_or_of_lt (Nat.pow_lt_pow_right (by decide) (Nat.lt_succ_self j)) c]
theorem div_end {X Y R Q:Nat} (h:Div X Y R Q 0):Q=X / Y∧R=X % Y:=by
  obtain ⟨h1,h2,h3,c,h4⟩:=h
  rw [Nat.pow_zero,Nat.mul_one] at h2
  have hY:0 < Y:=by omega
  constructor
  · rw [h1,Nat.add_comm,Nat.add_mul_div_right _ _ hY,Nat.div_eq_of_lt h2,Nat.zero_add]
  · rw [h1,Nat.add_comm,Nat.add_mul_mod_self_right,Nat.mod_eq_of_lt h2]
theorem div_le {X Y R Q j:Nat} (h:Div X Y R Q j):R≤X:=by have:=h.1;omega
theorem div_q {X Y R Q j:Nat} (h:Div X Y R Q j):Q < 9223372036854775808:=by have:=h.2.2.1;have:=Nat.pow_pos (n:=j) (show 0 < 2 from by decide);omega
def rAns (X Y:Nat):Value:=.tuple #[.int .u64 ((X / Y:Nat):Int),.int .i64 (cmpN (X % Y*2) Y)]
theorem ratio_any (b:Nat) (s:Int) (hb:b < 9218868437227405312) (hs0:-1000≤s) (hs1:s≤1000) (hq:rX b s < rY b s*9223372036854775808) (w:World) :
    Calls Tryz.prog 125 #[.int .u64 (b:Int),.int .i64 s] w fun e w'=>e=.returned (rAns (rX b s) (rY b s))∧Below w.heap.size w w':=by
  have HO:Hid (∀ (x:Nat) (W:World),x < 18446744073709551616→Calls Tryz.prog 170 #[.int .u64 (x:Int)] W fun e w'=>Made W x e w'):=fun x W hx=>(nof_any x hx W).mono fun e w' ⟨v,h1,h2,h3⟩=>⟨v,h1,h2,h3.big⟩
  have HT:Hid (∀ (n N:Nat) (v:Value) (W:World),n≤1000→NSh (N*10 ^ n)→BigAt W v N→Calls Tryz.prog 172 #[v,.int .i64 (n:Int)] W fun e w'=>Made W (N*10 ^ n) e w'):=fun n N v W hn hN hv=>ntens_any n v N (by omega) W hv hN
  have HSh:Hid (∀ (n N:Nat) (v:Value) (W:World),n≤5000→Sm N→BigAt W v N→Calls Tryz.prog 171 #[v,.int .i64 (n:Int)] W fun e w'=>Made W (N*2 ^ n) e w'):=fun n N v W hn hN hv=>nshift_any n (by omega) hv hN
  have HC:Hid (∀ (M N:Nat) (v u:Value) (W:World),Sm M→Sm N→BigAt W v M→BigAt W u N→Calls Tryz.prog 173 #[v,u] W fun e w'=>e=.returned (.int .i64 (cmpN M N))∧Below W.heap.size W w'):=fun M N v u W h1 h2 h3 h4=>ncompare_v h3 h4 h1 h2
  have HL:Hid (∀ (M N:Nat) (v u:Value) (W:World),Sm M→N≤M→BigAt W v M→BigAt W u N→Calls Tryz.prog 174 #[v,u] W fun e w'=>Made W (M - N) e w'):=fun M N v u W h1 h2 h3 h4=>nless_v h3 h4 h1 h2
  have HD:Hid (∀ (N:Nat) (v:Value) (W:World),Sm N→BigAt W v N→Calls Tryz.prog 175 #[v,.int .u32 2] W fun e w'=>Made W (N*2) e w'):=fun N v W h1 h2=>(ntimes_v 2 (by decide) h2 h1.nsh).mono fun e w' ⟨v,h1,h2,h3⟩=>⟨v,h1,h2,h3.big⟩
  have HPa:Hid _:=fun W=>parts_any b hb W
  have HXY:Hid (rX b s=pM b*2 ^ (pK b).toNat*10 ^ (-s).toNat∧rY b s=1*2 ^ (-(pK b)).toNat*10 ^ s.toNat):=⟨rfl,rfl⟩
  have HQ:Hid (rX b s < rY b s*9223372036854775808):=hq
  clear hq
  have h1:=pM_lt b
  have h3:=pK_low b
  have h4:=pK_high b hb
  have HSX:Hid (Sm (rX b s)∧Sm (rX b s*2)):=by
    have e:rX b s*2=pM b*10 ^ (-s).toNat*2 ^ ((pK b).toNat+1):=by unfold rX;rw [Nat.pow_succ,← Nat.mul_assoc,Nat.mul_right_comm (pM b)]
    have:Sm (rX b s*2):=by rw [e];exact sm_of _ _ _ (by omega) (by omega) (by omega)
    exact ⟨this.le (by omega),this⟩
  have HSY:Hid (∀ j,j≤62→Sm (rY b s*2 ^ j)):=fun j hj=>by
    have e:rY b s*2 ^ j=1*10 ^ s.toNat*2 ^ ((-(pK b)).toNat+j):=by unfold rY;rw [Nat.pow_add,← Nat.mul_assoc,Nat.mul_right_comm 1]
    rw [e];exact sm_of _ _ _ (by omega) (by omega) (by omega)
  generalize rX b s=X at *
  generalize rY b s=Y at *
  generalize pM b=m at *
  generalize pK b=k at *
  go_enter Tryz.func125,Tryz.ntmps125
  go_wp2_with fail
  refine (HPa.out _).mono ?_
  rintro e w0 ⟨rfl,rfl⟩
  clear HPa
  go_wp2_with fail
  refine (HO.out m _ (by omega)).mono ?_
  rintro e w1 ⟨v1,rfl,hb1,hB1⟩
  go_wp2_with fail
  refine (HO.out 1 _ (by omega)).mono ?_
  rintro e w2 ⟨v2,rfl,hb2,hB2⟩
  have hA2:=hB1.below hb2
  have hbw:Below w0.heap.size w0 w2:=hb1.trans (hb2.mono hb1.size)
  clear hB1 hb1 hb2 HO
  have HS1:Hid (Sm m∧Sm 1):=⟨(sm_of m 0 0 (by omega) (by omega) (by omega)).le (by simp),(sm_of 1 0 0 (by omega) (by omega) (by omega)).le (by simp)⟩
  go_upto_if 22 with fail
  go_cut [8,9] from 10 (fun a b W=>Hid (BigAt W a (m*2 ^ k.toNat))∧Hid (BigAt W b (1*2 ^ (-k).toNat))∧Below w0.heap.size w0 W)
  case first =>
    by_cases hk:0≤k
    · obtain ⟨n,rfl⟩:∃ n:Nat,k=(n:Int):=⟨k.toNat,by omega⟩
      have e1:(n:Int).toNat=n:=by omega
      have e2:(-(n:Int)).toNat=0:=by omega
      have HT':Hid _:=HSh.out n m v1 w2 (by omega) HS1.out.1 hA2
      have HB2:Hid (BigAt w2 v2 (1*2 ^ (-(n:Int)).toNat)):=by rw [e2,Nat.pow_zero,Nat.mul_one];exact hB2
      clear hA2 hB2
      as_aux_lemma =>
        go_wp2_with fail
        refine Calls.mono HT'.out ?_
        rintro e w3 ⟨v3,rfl,hb3,hB3⟩
        have HB3:Hid (BigAt w3 v3 (m*2 ^ ((n:Int)).toNat)):=by rw [e1];exact hB3
        clear hB3
        go_wp2_with fail
        go_meet
        exact ⟨HB3,HB2.out.below hb3,hbw.trans (hb3.mono hbw.size)⟩
    · obtain ⟨n,rfl⟩:∃ n:Nat,k=-(n:Int):=⟨(-k).toNat,by omega⟩
      have e1:(-(n:Int)).toNat=0:=by omega
      have e2:(- -(n:Int)).toNat=n:=by omega
      have e3:- -(n:Int)=(n:Int):=by omega
      have HT':Hid _:=HSh.out n 1 v2 w2 (by omega) HS1.out.2 hB2
      have HA2:Hid (BigAt w2 v1 (m*2 ^ (-(n:Int)).toNat)):=by rw [e1,Nat.pow_zero,Nat.mul_one];exact hA2
      clear hA2 hB2
      as_aux_lemma =>
        go_wp2_with fail
        refine Calls.mono HT'.out ?_
        rintro e w3 ⟨v3,rfl,hb3,hB3⟩
        have HB3:Hid (BigAt w3 v3 (1*2 ^ (- -(n:Int)).toNat)):=by rw [e2];exact hB3
        clear hB3
        go_wp2_with fail
        go_meet
        exact ⟨HA2.out.below hb3,HB3,hbw.trans (hb3.mono hbw.size)⟩
  case rest =>
  clear hA2 hB2 hbw HS1
  obtain ⟨HA,HB,hbw⟩:=hcut
  generalize m*2 ^ k.toNat=P at *
  generalize 1*2 ^ (-k).toNat=Q at *
  go_upto_if 31 with fail
  go_cut [8,9] from 10 (fun a b W=>Hid (BigAt W a X)∧Hid (BigAt W b Y)∧Below w0.heap.size w0 W)
  case first =>
    by_cases hs:0≤s
    · obtain ⟨n,rfl⟩:∃ n:Nat,s=(n:Int):=⟨s.toNat,by omega⟩
      have e1:(n:Int).toNat=n:=by omega
      have e2:(-(n:Int)).toNat=0:=by omega
      have HE:Hid (X=P∧Y=Q*10 ^ n):=by have:=HXY.out;rw [e1,e2,Nat.pow_zero,Nat.mul_one] at this;exact this
      have HT':Hid _:=HT.out n Q u9 wc (by omega) (by have:=(HSY.out 0 (by omega)).nsh;rw [Nat.pow_zero,Nat.mul_one,HE.out.2] at this;exact this) HB.out
      as_aux_lemma =>
        go_wp2_with fail
        refine Calls.mono HT'.out ?_
        rintro e w3 ⟨v3,rfl,hb3,hB3⟩
        have HB3:Hid (BigAt w3 v3 Y):=by rw [HE.out.2];exact hB3
        have HA3:Hid (BigAt w3 u8 X):=by rw [HE.out.1];exact HA.out.below hb3
        clear hB3
        go_wp2_with fail
        go_meet
        exact ⟨HA3,HB3,hbw.trans (hb3.mono hbw.size)⟩
    · obtain ⟨n,rfl⟩:∃ n:Nat,s=-(n:Int):=⟨(-s).toNat,by omega⟩
      have e1:(-(n:Int)).toNat=0:=by omega
      have e2:(- -(n:Int)).toNat=n:=by omega
      have e3:- -(n:Int)=(n:Int):=by omega
      have HE:Hid (X=P*10 ^ n∧Y=Q):=by have:=HXY.out;rw [e1,e2,Nat.pow_zero,Nat.mul_one] at this;exact this
      have HT':Hid _:=HT.out n P u8 wc (by omega) (by have:=HSX.out.1.nsh;rw [HE.out.1] at this;exact this) HA.out
      as_aux_lemma =>
        go_wp2_with fail
        refine Calls.mono HT'.out ?_
        rintro e w3 ⟨v3,rfl,hb3,hB3⟩
        have HA3:Hid (BigAt w3 v3 X):=by rw [HE.out.1];exact hB3
        have HB3:Hid (BigAt w3 u9 Y):=by rw [HE.out.2];exact HB.out.below hb3
        clear hB3
        go_wp2_with fail
        go_meet
        exact ⟨HA3,HB3,hbw.trans (hb3.mono hbw.size)⟩
  case rest =>
  as_aux_lemma =>
  clear HA HB hbw HT HXY
  obtain ⟨HA,HB,hbw⟩:=hcut
  clear h1 h3 h4 hs0 hs1
  go_wp2_with fail
  go_loopw [8,10,11] (fun x q i W=>∃ (R Q j:Nat) (a:Int),q=.int .u64 (Q:Int)∧i=.int .i64 a∧a+1=(j:Int)∧j≤63∧Hid (Div X Y R Q j)∧Hid (BigAt W x R)∧Hid (BigAt W u9 Y)∧Below w0.heap.size w0 W) (fun _ _ i _=>(intOf i+1).toNat)
  case atStart=>exact ⟨X,0,63,62,rfl,rfl,rfl,by omega,div_start HQ.out,HA,HB,hbw⟩
  case round =>
    obtain ⟨R,Q,j,a,rfl,rfl,haj,hj,HV,HR,HY,hbl⟩:=hrel
    have HSR:Hid (Sm R):=HSX.out.1.le (div_le HV.out)
    have hQ:=div_q HV.out
    cases j with
    | zero =>
      obtain rfl:a=-1:=by omega
      have HE:Hid (Q=X / Y∧R=X % Y):=div_end HV.out
      have HD':Hid _:=HD.out R u8 wr HSR.out HR.out
      have HS2:Hid (Sm (R*2)∧Sm Y):=⟨HSX.out.2.le (Nat.mul_le_mul_right 2 (div_le HV.out)),by have:=HSY.out 0 (by omega);rw [Nat.pow_zero,Nat.mul_one] at this;exact this⟩
      as_aux_lemma =>
        go_wp2_with fail
        refine Calls.mono HD'.out ?_
        rintro e w3 ⟨v3,rfl,hb3,hB3⟩
        have HC':Hid _:=HC.out (R*2) Y v3 u9 w3 HS2.out.1 HS2.out.2 hB3 (HY.out.below hb3)
        clear hB3
        go_wp2_with fail
        refine Calls.mono HC'.out ?_
        rintro e w4 ⟨rfl,hb4⟩
        go_wp2_with fail
        go_ret2
        refine ⟨?_,hbl.trans ((hb3.trans (hb4.mono hb3.size)).mono hbl.size)⟩
        unfold rAns
        rw [← HE.out.1,← HE.out.2]
        rfl
    | succ n =>
      obtain rfl:a=(n:Int):=by omega
      have hn:n≤62:=by omega
      have HS':Hid _:=HSh.out n Y u9 wr (by omega) (by have:=HSY.out 0 (by omega);rw [Nat.pow_zero,Nat.mul_one] at this;exact this) HY.out
      have HST:Hid (Sm (Y*2 ^ n)):=HSY.out n hn
      have hp:(2:Nat) ^ n < 9223372036854775808:=by
        rw [show 9223372036854775808=2 ^ 63 from by decide]
        exact Nat.pow_lt_pow_right (by decide) (by omega)
      have hor:bits .or .u64 (Q:Int) ((2 ^ n:Nat):Int)=((Q+2 ^ n:Nat):Int):=by
        rw [u64_or_nat Q (2 ^ n) (by omega) (by omega),div_or HV.out]
      have HOr:Hid (bits .or .u64 (Q:Int) (IntKind.u64.wrap (2 ^ n))=((Q+2 ^ n:Nat):Int)):=by
        have e:((2:Int) ^ n)=((2 ^ n:Nat):Int):=(Int.natCast_pow 2 n).symm
        show bits .or .u64 (Q:Int) (IntKind.u64.wrap (2 ^ n))=((Q+2 ^ n:Nat):Int)
        have e2:IntKind.u64.wrap ((2 ^ n:Nat):Int)=((2 ^ n:Nat):Int):=by
          generalize 2 ^ n=x at hp ⊢
          rw [IntKind.wrap_u64]
          omega
        rw [e,e2]
        exact hor
      clear hor
      have HV0:Hid (R < Y*2 ^ n→Div X Y R Q n):=fun h=>div_not HV.out h
      have HV1:Hid (Y*2 ^ n≤R→Div X Y (R - Y*2 ^ n) (Q+2 ^ n) n):=fun h=>div_sub HV.out h
      clear HV
      generalize 2 ^ n=p at *
      as_aux_lemma =>
        go_wp2_with fail
        refine Calls.mono HS'.out ?_
        rintro e w3 ⟨v3,rfl,hb3,hB3⟩
        have hR3:=HR.out.below hb3
        have hY3:=HY.out.below hb3
        have hbl3:=hbl.trans (hb3.mono hbl.size)
        have HC':Hid _:=HC.out R (Y*p) _ v3 w3 HSR.out HST.out hR3 hB3
        clear hbl hb3
        go_wp2_with fail
        refine Calls.mono HC'.out ?_
        rintro e w4 ⟨rfl,hb4⟩
        have hR4:=hR3.below hb4
        have HY4:Hid (BigAt w4 u9 Y):=hY3.below hb4
        have hT4:=hB3.below hb4
        have hbl4:=hbl3.trans (hb4.mono hbl3.size)
        clear hbl3 hb4 hR3 hY3 hB3
        by_cases hc:Y*p≤R
        · have hc':(0:Int)≤cmpN R (Y*p):=by unfold cmpN;rw [if_neg (by omega)];split <;> decide
          have HL':Hid _:=HL.out R (Y*p) _ v3 w4 HSR.out hc hR4 hT4
          clear hR4 hT4
          as_aux_lemma =>
            go_wp2_with fail
            refine Calls.mono HL'.out ?_
            rintro e w5 ⟨v5,rfl,hb5,hB5⟩
            have HB5:Hid _:=hB5
            clear hB5
            go_wp2_with fail
            exact ⟨⟨R - Y*p,Q+p,n,_,congrArg (Value.int .u64) HOr.out,rfl,by omega,by omega,HV1.out hc,HB5,HY4.out.below hb5,hbl4.trans (hb5.mono hbl4.size)⟩,by simp [intOf]⟩
        · have hc':¬ (0:Int)≤cmpN R (Y*p):=by unfold cmpN;rw [if_pos (by omega)];decide
          have HR4:Hid _:=hR4
          clear hR4 hT4
          as_aux_lemma =>
            go_wp2_with fail
            exact ⟨⟨R,Q,n,_,rfl,rfl,by omega,by omega,HV0.out (by omega),HR4,HY4,hbl4⟩,by simp [intOf]⟩
end Go.Proofs.YtibahfopmjiffaaGreatDoor.Rl
/- top: the document's, of layer 2. Own work of the verifier. -/
set_option maxRecDepth 100000
set_option maxHeartbeats 2000000
namespace Go.Proofs.YtibahfopmjiffaaGreatDoor.Rl
open Go.RowKit Soft
def tE (t:Int):Int:=(t*30103).tdiv 100000+2
def tOk (i:Nat):Bool :=
  decide (-400≤tE ((i:Int) - 1074)) && decide (tE ((i:Int) - 1074)≤400) &&
    decide (2 ^ ((i:Int) - 1074+1).toNat*10 ^ (-(tE ((i:Int) - 1074))).toNat≤10 ^ (tE ((i:Int) - 1074)).toNat*2 ^ (-((i:Int) - 1074+1)).toNat)
theorem tOk_all:(List.range 2100).all tOk=true:=by kernel_rfl
theorem tE_ok (t:Int) (h0:-1074≤t) (h1:t≤1024):-400≤tE t∧tE t≤400∧2 ^ (t+1).toNat*10 ^ (-(tE t)).toNat≤10 ^ (tE t).toNat*2 ^ (-(t+1)).toNat:=by
  have:=List.all_eq_true.1 tOk_all (t+1074).toNat (List.mem_range.2 (by omega))
  unfold tOk at this
  rw [show (((t+1074).toNat:Int)) - 1074=t from by omega] at this
  rw [Bool.and_eq_true,Bool.and_eq_true] at this
  exact ⟨of_decide_eq_true this.1.1,of_decide_eq_true this.1.2,of_decide_eq_true this.2⟩
theorem cmpN_pos {a b:Nat}:0 < cmpN a b ↔ b < a:=by
  unfold cmpN
  constructor
  · intro h
    split at h
    · cases h
    · split at h
      · assumption
      · cases h
  · intro h
    rw [if_neg (by omega),if_pos h]
    decide
theorem AG_start (m j:Nat) (k:Int) (h0:-1074≤k+j) (h1:k+j≤1024) (hm:m < 2 ^ (j+1)):0 < AG 1 (tE (k+j)) m k:=by
  obtain ⟨_,_,h⟩:=tE_ok (k+j) h0 h1
  generalize tE (k+j)=e at *
  unfold AG
  rw [cmpN_pos,Nat.one_mul]
  generalize 10 ^ (-e).toNat=A at *
  generalize hB:10 ^ e.toNat=B at *
  obtain ⟨d,hd1,hd2⟩:∃ d:Nat,j+1+k.toNat=d+(k+j+1).toNat∧(-k).toNat=d+(-(k+j+1)).toNat:=⟨(-k).toNat - (-(k+j+1)).toNat,by omega,by omega⟩
  rcases Nat.eq_zero_or_pos A with hA | hA
  · subst hA
    rw [Nat.mul_zero,Nat.zero_mul]
    exact Nat.mul_pos (by rw [← hB];exact Nat.pow_pos (by decide)) (Nat.pow_pos (by decide))
  · have a1:m*A*2 ^ k.toNat < 2 ^ (j+1)*A*2 ^ k.toNat:=Nat.mul_lt_mul_of_pos_right (Nat.mul_lt_mul_of_pos_right hm hA) (Nat.pow_pos (by decide))
    have a2:2 ^ (j+1)*A*2 ^ k.toNat=2 ^ d*(2 ^ (k+j+1).toNat*A):=by
      rw [Nat.mul_right_comm,← Nat.pow_add,hd1,Nat.pow_add,Nat.mul_assoc]
    have a3:2 ^ d*(2 ^ (k+j+1).toNat*A)≤2 ^ d*(B*2 ^ (-(k+j+1)).toNat):=Nat.mul_le_mul_left _ h
    have a4:2 ^ d*(B*2 ^ (-(k+j+1)).toNat)=B*2 ^ (-k).toNat:=by
      rw [hd2,Nat.pow_add,Nat.mul_left_comm]
    rw [a2] at a1
    rw [a4] at a3
    exact Nat.lt_of_lt_of_le a1 a3
theorem two_ten (n c:Nat) (h:n≤3*c):2 ^ n≤10 ^ c:=by
  refine Nat.le_trans (Nat.pow_le_pow_right (by decide) h) ?_
  rw [Nat.pow_mul]
  exact Nat.pow_le_pow_left (by decide) c
theorem AG_bottom (m:Nat) (k:Int) (h0:-1074≤k) (hm:1≤m):AG 1 (-400) m k≤0:=by
  refine Int.not_lt.1 ?_
  unfold AG
  rw [cmpN_pos,show (-400:Int).toNat=0 from rfl,Nat.pow_zero,Nat.one_mul]
  obtain ⟨c,hc,hc4⟩:∃ c:Nat,(- -400:Int).toNat=c∧c=400:=⟨_,rfl,rfl⟩
  rw [hc]
  have a1:2 ^ (-k).toNat≤10 ^ c:=two_ten _ c (by omega)
  have a3:10 ^ c≤m*10 ^ c*2 ^ k.toNat:=by
    have b1:1*10 ^ c≤m*10 ^ c:=Nat.mul_le_mul_right _ hm
    rw [Nat.one_mul] at b1
    exact Nat.le_trans b1 (Nat.le_mul_of_pos_right _ (Nat.pow_pos (by decide)))
  exact Nat.not_lt.2 (Nat.le_trans a1 a3)
def Top (b:Nat) (t:Int):Prop:=-400≤t∧t≤400∧AG 1 t (pM b) (pK b)≤0∧0 < AG 1 (t+1) (pM b) (pK b)
def Half (m X j:Nat):Prop:=X*2 ^ j≤m∧m < (X+1)*2 ^ j
theorem half_step {m X j:Nat} (h:Half m X j):Half m (X / 2) (j+1):=by
  obtain ⟨h1,h2⟩:=h
  unfold Half
  rw [Nat.pow_succ,Nat.mul_comm (2 ^ j) 2,← Nat.mul_assoc,← Nat.mul_assoc]
  exact ⟨Nat.le_trans (Nat.mul_le_mul_right _ (by omega)) h1,Nat.lt_of_lt_of_le h2 (Nat.mul_le_mul_right _ (by omega))⟩
theorem half_j {m X j:Nat} (h:Half m X j) (hX:1≤X) (hm:m < 9007199254740992):j≤52:=by
  rcases Nat.lt_or_ge j 53 with c | c
  · omega
  · have a1:2 ^ 53≤2 ^ j:=Nat.pow_le_pow_right (by decide) c
    have a2:1*2 ^ j≤X*2 ^ j:=Nat.mul_le_mul_right _ hX
    have a3:=h.1
    rw [show (2:Nat) ^ 53=9007199254740992 from by decide] at a1
    omega
theorem top_any (b:Nat) (hb0:1≤b) (hb:b < 9218868437227405312) (w:World) :
    Calls Tryz.prog 124 #[.int .u64 (b:Int)] w fun e w'=>∃ t,e=.returned (.int .i64 t)∧Top b t∧Below w.heap.size w w':=by
  have HPa:Hid _:=fun W=>parts_any b hb W
  have h1:=pM_lt b
  have h2:=pM_pos b hb0
  have h3:=pK_low b
  have h4:=pK_high b hb
  have HG:Hid (∀ e W,-1000≤e→e≤1000→Calls Tryz.prog 169 #[.int .u64 1,.int .i64 e,.int .u64 (pM b:Int),.int .i64 (pK b)] W fun r w'=>r=.returned (.int .i64 (AG 1 e (pM b) (pK b)))∧Below W.heap.size W w'):=fun e W g0 g1=>against_any 1 (pM b) e (pK b) (by omega) (by omega) (by omega) (by omega) (by omega) (by omega) W
  unfold Top
  generalize pM b=m at *
  generalize pK b=k at *
  go_enter Tryz.func124,Tryz.ntmps124
  go_wp2_with fail
  refine (HPa.out _).mono ?_
  rintro e w0 ⟨rfl,rfl⟩
  clear HPa
  go_wp2_with fail
  go_loopw [5,6] (fun a x W=>∃ X j:Nat,a=.int .i64 (k+(j:Int))∧x=.int .u64 (X:Int)∧1≤X∧X≤m∧Hid (Half m X j)∧W=w0) (fun _ x _=>(intOf x).toNat)
  case atStart=>exact ⟨m,0,congrArg (Value.int .i64) (by omega),rfl,h2,by omega,⟨by rw [Nat.pow_zero,Nat.mul_one];exact Nat.le_refl _,by rw [Nat.pow_zero,Nat.mul_one];omega⟩,rfl⟩
  case round =>
    obtain ⟨X,j,rfl,rfl,hX,hXm,HH,hwr⟩:=hrel
    subst wr
    have hj:=half_j HH.out hX h1
    by_cases hx:1 < X
    · have hx':(1:Int) < (X:Int):=by omega
      have HH':Hid _:=half_step HH.out
      as_aux_lemma =>
        go_wp2_with fail
        exact ⟨⟨X / 2,j+1,congrArg (Value.int .i64) (by omega),congrArg (Value.int .u64) (by omega),by omega,by omega,HH',trivial⟩,by simp [intOf];omega⟩
    · have hX1:X=1:=by omega
      have hx':¬ (1:Int) < (X:Int):=by omega
      have HS:Hid (0 < AG 1 (tE (k+j)) m k):=AG_start m j k (by omega) (by omega) (by have:=HH.out.2;rw [hX1,show (1:Nat)+1=2 from rfl,Nat.mul_comm,← Nat.pow_succ] at this;exact this)
      have HB:Hid (AG 1 (-400) m k≤0):=AG_bottom m k h3 h2
      obtain ⟨t1,t2,_⟩:=tE_ok (k+j) (by omega) (by omega)
      clear hX1 HH
      have hte:(((k+(j:Int))*30103).tdiv 100000)+2=tE (k+j):=rfl
      have t3:-402≤((k+(j:Int))*30103).tdiv 100000:=by omega
      have t4:((k+(j:Int))*30103).tdiv 100000≤398:=by omega
      as_aux_lemma =>
        go_wp2_with fail
        go_loopw [7] (fun a W=>∃ e:Int,a=.int .i64 e∧-400≤e∧e≤400∧Hid (0 < AG 1 e m k∨0 < AG 1 (e+1) m k)∧Below w0.heap.size w0 W) (fun a _=>(intOf a+400).toNat)
        case atStart=>exact ⟨tE (k+j),rfl,t1,t2,Or.inl HS.out,Below.refl _ _⟩
        case round =>
          obtain ⟨e,rfl,e1,e2,HE,hbl⟩:=hrel
          have HG':Hid _:=HG.out e wr (by omega) (by omega)
          have HB':Hid (0 < AG 1 e m k→-400 < e):=fun h=>by
            rcases Int.lt_or_eq_of_le e1 with c | c
            · exact c
            · rw [← c] at h;exact absurd h (Int.not_lt.2 HB.out)
          as_aux_lemma =>
            go_wp2_with fail
            refine Calls.mono HG'.out ?_
            rintro r w3 ⟨rfl,hb3⟩
            by_cases hc:0 < AG 1 e m k
            · have e3:=HB'.out hc
              have HC:Hid (0 < AG 1 (e - 1) m k∨0 < AG 1 (e - 1+1) m k):=Or.inr (by rw [show e - 1+1=e from by omega];exact hc)
              generalize AG 1 e m k=g at *
              as_aux_lemma =>
                go_wp2_with fail
                exact ⟨⟨e - 1,rfl,by omega,by omega,HC,hbl.trans (hb3.mono hbl.size)⟩,by simp [intOf];omega⟩
            · have HC:Hid (AG 1 e m k≤0∧0 < AG 1 (e+1) m k):=⟨Int.not_lt.1 hc,HE.out.resolve_left hc⟩
              clear HE HB' HG'
              generalize hg:AG 1 e m k=g at *
              as_aux_lemma =>
                go_wp2_with fail
                go_ret
                exact ⟨e,rfl,⟨e1,e2,by rw [hg];exact HC.out.1,HC.out.2⟩,hbl.trans (hb3.mono hbl.size)⟩
end Go.Proofs.YtibahfopmjiffaaGreatDoor.Rl
/- zeros, and the arithmetic of Digits: the document's, of layer 2. Own work of the verifier. -/
set_option maxHeartbeats 1000000
namespace Go.Proofs.YtibahfopmjiffaaGreatDoor.Rl
open Go.RowKit Soft
theorem top_ratio (b:Nat) (t:Int) (n:Nat) (h:Top b t):rX b (t - n+1) < rY b (t - n+1)*10 ^ n:=by
  have h4:=h.2.2.2
  unfold AG at h4
  rw [cmpN_pos,Nat.one_mul] at h4
  unfold rX rY
  rw [Nat.one_mul]
  generalize pM b=m at *
  generalize pK b=k at *
  obtain ⟨d,hd1,hd2⟩:∃ d:Nat,(-(t - n+1)).toNat=(-(t+1)).toNat+d∧(t - n+1).toNat+n=(t+1).toNat+d:=⟨(-(t - n+1)).toNat - (-(t+1)).toNat,by omega,by omega⟩
  have e1:m*2 ^ k.toNat*10 ^ (-(t - n+1)).toNat=m*10 ^ (-(t+1)).toNat*2 ^ k.toNat*10 ^ d:=by
    rw [hd1,Nat.pow_add,← Nat.mul_assoc,Nat.mul_right_comm m]
  have e2:2 ^ (-k).toNat*10 ^ (t - n+1).toNat*10 ^ n=10 ^ (t+1).toNat*2 ^ (-k).toNat*10 ^ d:=by
    rw [Nat.mul_assoc,← Nat.pow_add,hd2,Nat.pow_add,← Nat.mul_assoc,Nat.mul_comm (2 ^ (-k).toNat)]
  rw [e1,e2]
  exact Nat.mul_lt_mul_of_pos_right h4 (Nat.pow_pos (by decide))
theorem rY_pos (b:Nat) (s:Int):0 < rY b s:=by
  unfold rY
  rw [Nat.one_mul]
  exact Nat.mul_pos (Nat.pow_pos (by decide)) (Nat.pow_pos (by decide))
theorem ten17 {n:Nat} (h:n≤17):10 ^ n≤100000000000000000:=by
  have:10 ^ n≤10 ^ 17:=Nat.pow_le_pow_right (by decide) h
  rw [show (10:Nat) ^ 17=100000000000000000 from by decide] at this
  exact this
theorem top_big (b:Nat) (t:Int) (n:Nat) (h:Top b t) (hn:n≤17):rX b (t - n+1) < rY b (t - n+1)*9223372036854775808 :=
  Nat.lt_of_lt_of_le (top_ratio b t n h) (Nat.mul_le_mul_left _ (Nat.le_trans (ten17 hn) (by decide)))
def qN (b:Nat) (s:Int):Nat:=rX b s / rY b s
def hN (b:Nat) (s:Int):Int:=cmpN (rX b s % rY b s*2) (rY b s)
theorem qN_lt (b:Nat) (t:Int) (n:Nat) (h:Top b t) (hn:n≤17):qN b (t - n+1) < 100000000000000000 :=
  Nat.lt_of_lt_of_le ((Nat.div_lt_iff_lt_mul (rY_pos b _)).2 (by rw [Nat.mul_comm];exact top_ratio b t n h)) (ten17 hn)
def okD (b:Nat) (s:Int):Prop:=SideN b (qN b s) s=0∨SideN b (qN b s+1) s=0
def upD (b:Nat) (s:Int):Prop:=SideN b (qN b s) s≠0∨SideN b (qN b s+1) s=0∧(0 < hN b s∨hN b s=0∧qN b s % 2=1)
open Classical in
noncomputable def cD (b:Nat) (s:Int):Nat:=if upD b s then qN b s+1 else qN b s
theorem side_zero (b:Nat) (s:Int) (hb:1≤b):SideN b 0 s≠0:=by
  unfold SideN
  rw [if_pos]
  · decide
  · refine Or.inl ?_
    unfold AG
    rw [Nat.zero_mul,Nat.zero_mul,cmpN_lt]
    · decide
    · have h1:=pM_pos b hb
      have h2:0 < lowM b:=by unfold lowM;split <;> omega
      exact Nat.mul_pos (Nat.mul_pos h2 (Nat.pow_pos (by decide))) (Nat.pow_pos (by decide))
theorem cD_pos (b:Nat) (s:Int) (hb:1≤b):1≤cD b s:=by
  unfold cD
  split
  · omega
  · rename_i h
    rcases Nat.eq_zero_or_pos (qN b s) with c | c
    · refine absurd (Or.inl ?_) h
      rw [c]
      exact side_zero b s hb
    · exact c
def Strp (c:Nat) (s:Int) (c':Nat) (s':Int):Prop:=∃ j:Nat,c=c'*10 ^ j∧s'=s+j
theorem strp_step {c c':Nat} {s s':Int} (h:Strp c s c' s') (h0:c' % 10=0):Strp c s (c' / 10) (s'+1):=by
  obtain ⟨j,h1,h2⟩:=h
  refine ⟨j+1,?_,by omega⟩
  rw [h1,Nat.pow_succ,Nat.mul_comm (10 ^ j) 10,← Nat.mul_assoc,show c' / 10*10=c' from by omega]
theorem strp_s {c c':Nat} {s s':Int} (h:Strp c s c' s') (h1:1≤c') (hc:c≤100000000000000000):s≤s'∧s'≤s+17:=by
  obtain ⟨j,e1,e2⟩:=h
  have:j≤17:=by
    rcases Nat.lt_or_ge 17 j with g | g
    · have a1:10 ^ 18≤10 ^ j:=Nat.pow_le_pow_right (by decide) g
      have a2:1*10 ^ j≤c'*10 ^ j:=Nat.mul_le_mul_right _ h1
      rw [show (10:Nat) ^ 18=1000000000000000000 from by decide] at a1
      omega
    · exact g
  omega
def DigsOf (b c:Nat) (e:Int):Prop :=
  (∃ (t:Int) (n:Nat) (s:Int),Top b t∧1≤n∧n≤17∧(∀ i:Nat,1≤i→i < n→¬ okD b (t - i+1))∧okD b (t - n+1)∧Strp (cD b (t - n+1)) (t - n+1) c s∧c % 10≠0∧e=s+(Lib.nDigits c:Int) - 1)
  ∨ ((∃ t:Int,Top b t∧∀ i:Nat,1≤i→i≤17→¬ okD b (t - i+1))∧c=0∧e=0)
theorem zeros_any (n:Nat) (hn:n≤1000000) (w:World) :
    Calls Tryz.prog 89 #[.int .i64 (n:Int)] w fun e w'=>e=.returned (.string ⟨(List.replicate n 48).toArray⟩)∧w'=w:=by
  go_enter Tryz.func89,Tryz.ntmps89
  go_wp2_with fail
  go_loopw [3,4] (fun a x W=>∃ i:Nat,i≤n∧a=.string ⟨(List.replicate i 48).toArray⟩∧x=.int .i64 (i:Int)∧W=w) (fun _ x _=>n - (intOf x).toNat)
  case atStart=>exact ⟨0,by omega,rfl,rfl,rfl⟩
  case round =>
    obtain ⟨i,hi,rfl,rfl,hw⟩:=hrel
    subst wr
    by_cases h:i < n
    · have h':(i:Int) < (n:Int):=by omega
      as_aux_lemma =>
        go_wp2_with fail
        refine ⟨⟨i+1,by omega,?_,by go_num,trivial⟩,by simp [intOf];omega⟩
        rw [List.replicate_succ']
        first | rfl | simp
    · obtain rfl:i=n:=by omega
      have h':¬ (i:Int) < (i:Int):=by omega
      as_aux_lemma =>
        go_wp2_with fail
        go_ret
        exact ⟨rfl,rfl⟩
end Go.Proofs.YtibahfopmjiffaaGreatDoor.Rl
