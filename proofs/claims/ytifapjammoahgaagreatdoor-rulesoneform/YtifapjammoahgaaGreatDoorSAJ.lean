/- floatBits. Own work of the verifier. -/
import Derived.Test.YtifapjammoahgaaGreatDoorSAH
import Derived.Test.YtifapjammoahgaaGreatDoorSAA
set_option maxRecDepth 100000
set_option maxHeartbeats 4000000
namespace Go.Proofs.YtifapjammoahgaaGreatDoor.Rl
open Go.RowKit
def onJump (P:Program) (c:Code) (Q:Exit→Act→World→Prop):Exit→Act→World→Prop
  | .goto l,a,w=>∃ rest,findLabel c l=some rest∧rest.wp P (Exit.noGoto Q) a w
  | e,a,w=>Q e a w
theorem wp_scope_on {P:Program} {a:Act} {w:World} {Q:Exit→Act→World→Prop} {c:Code} (first:c.wp P (onJump P c Q) a w):(Code.scope c).wp P Q a w:=by
  intro b k cs
  obtain ⟨e,a1,w1,hq,harr⟩:=first b (.inScope c::k) cs
  cases e with
  | normal=>exact ⟨.normal,a1,w1,hq,.head step_scope (Steps.trans harr (.one step_inScope))⟩
  | exit id=>exact ⟨.exit id,a1,w1,hq,fun k' hk=>.head step_scope (harr k' (by simp [exitTo,hk]))⟩
  | goto l =>
    obtain ⟨rest,hf,hw⟩:=hq
    have hg:gotoIn l (.inScope c::k)=some (.code rest::.inScope c::k):=by simp [gotoIn,hf]
    obtain ⟨e2,a2,w2,hq2,harr2⟩:=hw b (.inScope c::k) cs
    cases e2 with
    | normal=>exact ⟨.normal,a2,w2,hq2,.of_steps (.head step_scope (harr _ hg)) (Steps.trans harr2 (.one step_inScope))⟩
    | exit id=>exact ⟨.exit id,a2,w2,hq2,.of_steps (.head step_scope (harr _ hg)) (fun k' hk=>harr2 k' (by simp [exitTo,hk]))⟩
    | goto l'=>exact hq2.elim
    | ret=>exact ⟨_,a2,w2,hq2,.of_steps (.head step_scope (harr _ hg)) harr2⟩
    | panic ch=>exact ⟨_,a2,w2,hq2,.of_steps (.head step_scope (harr _ hg)) harr2⟩
    | outgrown=>exact ⟨_,a2,w2,hq2,.of_steps (.head step_scope (harr _ hg)) harr2⟩
  | ret=>exact ⟨_,a1,w1,hq,.of_steps (.one step_scope) harr⟩
  | panic ch=>exact ⟨_,a1,w1,hq,.of_steps (.one step_scope) harr⟩
  | outgrown=>exact ⟨_,a1,w1,hq,.of_steps (.one step_scope) harr⟩
def powN (i:Nat):Nat:=[1,3,6,9,13,16,19,23,26].getD i 0
theorem powN_ok:∀ i,i < 9→1≤powN i∧powN i≤26:=by decide
structure InfoB (g:Nat) (w:World):Prop where
  gi:10 < g
  gp:14 < g
  m52:w.cell? ⟨10,0,none⟩=some (.int .u64 52)
  e11:w.cell? ⟨10,1,none⟩=some (.int .u64 11)
  bias:w.cell? ⟨10,2,none⟩=some (.int .i64 (-1023))
  pow:∃ b o c,b < g∧w.cell? ⟨14,0,none⟩=some (.slice (some ⟨b,o,none⟩) 9 c)∧∀ i,i < 9→w.cell? ⟨b,o+i,none⟩=some (.int .i64 (powN i:Int))
theorem InfoB.below {g:Nat} {w w':World} (h:InfoB g w) (hb:Below g w w'):InfoB g w':=by
  have e:∀ x y,x < g→w'.cell? ⟨x,y,none⟩=w.cell? ⟨x,y,none⟩:=fun x y hx=>hb.cell (p:=⟨x,y,none⟩) hx
  obtain ⟨b,o,c,h1,h2,h3⟩:=h.pow
  exact ⟨h.gi,h.gp,by rw [e _ _ h.gi];exact h.m52,by rw [e _ _ h.gi];exact h.e11,by rw [e _ _ h.gi];exact h.bias,b,o,c,h1,by rw [e _ _ h.gp];exact h2,fun i hi=>by rw [e _ _ h1];exact h3 i hi⟩
def TellsW (e:Ending):Prop:=∃ (v:Nat) (o:Bool),e=.returned (.tuple #[.int .u64 (v:Int),.bool o])∧v < 18446744073709551616
structure Tail (m X A C S:Nat):Prop where
  ha:bits .and .u64 (m:Int) 4503599627370495=(A:Int)
  hb:bits .and .i64 (X:Int) 2047=(X:Int)
  hc:bits .or .u64 (A:Int) ((X:Int)*4503599627370496)=(C:Int)
  hs:bits .or .u64 (C:Int) 9223372036854775808=(S:Int)
  lc:C < 18446744073709551616
  ls:S < 18446744073709551616
theorem tail_of (m X:Nat) (hm:m < 18446744073709551616) (hX:X≤2047):∃ A C S,Tail m X A C S:=by
  have h1:=u64_and_nat m 4503599627370495 hm (by decide)
  have hA:m &&& 4503599627370495 < 2 ^ 64:=Nat.and_lt_two_pow m (by decide)
  have h2:=u64_or_nat (m &&& 4503599627370495) (X*4503599627370496) hA (by omega)
  have hC:(m &&& 4503599627370495) ||| (X*4503599627370496) < 2 ^ 64:=Nat.or_lt_two_pow hA (by omega)
  have h3:=u64_or_nat ((m &&& 4503599627370495) ||| (X*4503599627370496)) 9223372036854775808 hC (by decide)
  have hS:((m &&& 4503599627370495) ||| (X*4503599627370496)) ||| 9223372036854775808 < 2 ^ 64:=Nat.or_lt_two_pow hC (by decide)
  refine ⟨_,_,_,h1,?_,?_,h3,hC,hS⟩
  · have:∀ x,x < 2048→bits .and .i64 ((x:Nat):Int) 2047=(x:Int):=by decide +kernel
    exact this X (by omega)
  · rw [← h2];congr 1
structure FB (g:Nat) (w:World) (ng:Bool) (dq:Int) (f:Nat) (W:World):Prop where
  dec:∃ E m t,DecAt g E m dq ng t W∧Good E m∧E 0=f
  ch:CheatB g W
  inf:InfoB g W
  bel:Below g w W
theorem FB.fst {g:Nat} {w:World} {ng:Bool} {dq:Int} {f:Nat} {W:World} (h:FB g w ng dq f W):49≤f∧f≤57:=by
  obtain ⟨E,m,t,h1,h2,h3⟩:=h.dec
  exact ⟨by rw [← h3];exact h2.fst,by rw [← h3];exact (h2.dig 0 h2.pos).2⟩
def nuOf (g:Nat) (W:World):Int:=(match W.cell? ⟨g,801,none⟩ with | some (.int _ k)=>k | _=>0)*10+(match W.cell? ⟨g,0,none⟩ with | some (.int _ k)=>k | _=>0)
theorem FB.nu {g:Nat} {w:World} {ng:Bool} {dq:Int} {f:Nat} {W:World} (h:FB g w ng dq f W):nuOf g W=dq*10+(f:Int):=by
  obtain ⟨E,m,t,h1,h2,h3⟩:=h.dec
  unfold nuOf
  rw [h1.dp,h1.dig 0 (by decide),h3]
theorem FB.dp {g:Nat} {w:World} {ng:Bool} {dq:Int} {f:Nat} {W:World} (h:FB g w ng dq f W):W.cell? ⟨g,801,none⟩=some (.int .i64 dq):=by
  obtain ⟨E,m,t,h1,h2,h3⟩:=h.dec
  exact h1.dp
theorem FB.d0 {g:Nat} {w:World} {ng:Bool} {dq:Int} {f:Nat} {W:World} (h:FB g w ng dq f W):W.cell? ⟨g,0,none⟩=some (.int .u8 (f:Int)):=by
  obtain ⟨E,m,t,h1,h2,h3⟩:=h.dec
  rw [← h3];exact h1.dig 0 (by decide)
theorem FB.neg {g:Nat} {w:World} {ng:Bool} {dq:Int} {f:Nat} {W:World} (h:FB g w ng dq f W):W.cell? ⟨g,802,none⟩=some (.bool ng):=by
  obtain ⟨E,m,t,h1,h2,h3⟩:=h.dec
  exact h1.neg
theorem FB.drewN {g:Nat} {w:World} {ng:Bool} {dq:Int} {f:Nat} {W:World} (h:FB g w ng dq f W) (q:Nat):FB g w ng dq f (W.drewN q):=by
  obtain ⟨E,m,t,h1,h2,h3⟩:=h.dec
  have hb:Below g W (W.drewN q):=Below.drewN' (Below.refl _ _) q
  exact ⟨⟨E,m,t,h1.drewN q,h2,h3⟩,h.ch.below hb,h.inf.below hb,h.bel.trans hb⟩
def FBR (k g:Nat) (w:World) (ng:Bool) (dq:Int) (f:Nat) (W:World):Prop:=∃ dq' f',FB g w ng dq' f' W∧(dq' < dq∨dq'=dq∧f' < f)∧dq - 20 - (k:Int)≤dq'
def FBL (k g:Nat) (w:World) (ng:Bool) (dq:Int) (f:Nat) (W:World):Prop:=∃ dq' f',FB g w ng dq' f' W∧(dq < dq'∨dq=dq'∧f < f')∧dq'≤dq+20+(k:Int)
theorem fb_right {g:Nat} {w:World} {ng:Bool} {dq:Int} {f:Nat} {W:World} (h:FB g w ng dq f W) (k:Nat) (k0:1≤k) (k1:k≤1000000) (d0:-1000000000≤dq) (d1:dq≤1000000000) :
    Calls Tryz.prog 115 #[.pointer (some ⟨g,0,none⟩),.int .i64 (-(k:Int))] W fun e w'=>e=.returned (.tuple #[])∧FBR k g w ng dq f w':=by
  obtain ⟨E,m,t,h1,h2,h3⟩:=h.dec
  refine (shift_right g E m k dq ng t h2 k0 k1 d0 d1 W h1).mono ?_
  rintro e w' ⟨rfl,E',m',dp',t',p1,p2,p3,p4,p5⟩
  exact ⟨rfl,dp',E' 0,⟨⟨E',m',t',p1,p2,rfl⟩,h.ch.below p5,h.inf.below p5,h.bel.trans p5⟩,by rw [h3] at p3;exact p3,p4⟩
theorem fb_left {g:Nat} {w:World} {ng:Bool} {dq:Int} {f:Nat} {W:World} (h:FB g w ng dq f W) (k:Nat) (k0:1≤k) (k1:k≤1000000) (d0:-1000000000≤dq) (d1:dq≤1000000000) :
    Calls Tryz.prog 115 #[.pointer (some ⟨g,0,none⟩),.int .i64 (k:Int)] W fun e w'=>e=.returned (.tuple #[])∧FBL k g w ng dq f w':=by
  obtain ⟨E,m,t,h1,h2,h3⟩:=h.dec
  refine (shift_left g E m k dq ng t h2 k0 k1 d0 d1 W h1 h.ch).mono ?_
  rintro e w' ⟨rfl,E',m',dp',t',p1,p2,p3,p4,p5⟩
  exact ⟨rfl,dp',E' 0,⟨⟨E',m',t',p1,p2,rfl⟩,h.ch.below p5,h.inf.below p5,h.bel.trans p5⟩,by rw [h3] at p3;exact p3,p4⟩
theorem fb_int {g:Nat} {w:World} {ng:Bool} {dq:Int} {f:Nat} {W:World} (h:FB g w ng dq f W) (d0:-1000000000≤dq) (d1:dq≤1000000000) :
    Calls Tryz.prog 198 #[.pointer (some ⟨g,0,none⟩)] W fun e w'=>TellsU e∧w'=W:=by
  obtain ⟨E,m,t,h1,h2,h3⟩:=h.dec
  exact integer_some g E m dq ng t h2 d0 d1 W h1
theorem bits_some (g:Nat) (D:Nat→Nat) (n:Nat) (dp:Int) (ng tr:Bool) (hG:n=0∨Good D n) (w:World) (h:DecAt g D n dp ng tr w) (hC:CheatB g w) (hI:InfoB g w) :
    Calls Tryz.prog 189 #[.pointer (some ⟨g,0,none⟩),.pointer (some ⟨10,0,none⟩)] w fun e w'=>TellsW e∧Below g w w':=by
  have c1:=h.nd
  have c2:=h.dp
  have c3:=h.neg
  have i1:=hI.m52
  have i2:=hI.e11
  have i3:=hI.bias
  have ha0:bits .and .u64 0 4503599627370495=0:=by decide +kernel
  have hb0:bits .and .i64 0 2047=0:=by decide +kernel
  have hb1:bits .and .i64 2047 2047=2047:=by decide +kernel
  have hc0:bits .or .u64 0 0=0:=by decide +kernel
  have hc1:bits .or .u64 0 9218868437227405312=9218868437227405312:=by decide +kernel
  have hs0:bits .or .u64 0 9223372036854775808=9223372036854775808:=by decide +kernel
  have hs1:bits .or .u64 9218868437227405312 9223372036854775808=18442240474082181120:=by decide +kernel
  rcases hG with rfl | hG
  · go_enter Tryz.func189,Tryz.ntmps189
    go_wp2_with fail
    refine wp_scope_on ?_
    go_wp2_with fail
    go_step3
    refine ⟨_,rfl,?_⟩
    go_wp2_with fail
    cases ng
    · as_aux_lemma =>
        go_quiet (fail)
        go_wp2_with fail
        rw [Exit.noGoto_ret]
        go_ret2
        exact ⟨⟨0,_,rfl,by decide⟩,by repeat (first | exact Below.refl _ _ | refine Below.drewN' ?_ _)⟩
    · as_aux_lemma =>
        go_quiet (fail)
        go_wp2_with fail
        go_quiet (fail)
        go_wp2_with fail
        rw [Exit.noGoto_ret]
        go_ret2
        exact ⟨⟨9223372036854775808,_,rfl,by decide⟩,by repeat (first | exact Below.refl _ _ | refine Below.drewN' ?_ _)⟩
  · have hz:((n:Int) == 0)=false:=by rw [beq_eq_false_iff_ne];have:=hG.pos;omega
    by_cases h310:310 < dp
    · go_enter Tryz.func189,Tryz.ntmps189
      go_wp2_with fail
      refine wp_scope_on ?_
      go_wp2_with fail
      go_step3
      refine ⟨_,rfl,?_⟩
      go_wp2_with fail
      go_quiet (fail)
      go_wp2_with fail
      go_step3
      go_wp2_with fail
      cases ng
      · as_aux_lemma =>
          go_quiet (fail)
          go_wp2_with fail
          rw [Exit.noGoto_ret]
          go_ret2
          exact ⟨⟨9218868437227405312,_,rfl,by decide⟩,by repeat (first | exact Below.refl _ _ | refine Below.drewN' ?_ _)⟩
      · as_aux_lemma =>
          go_quiet (fail)
          go_wp2_with fail
          go_quiet (fail)
          go_wp2_with fail
          rw [Exit.noGoto_ret]
          go_ret2
          exact ⟨⟨18442240474082181120,_,rfl,by decide⟩,by repeat (first | exact Below.refl _ _ | refine Below.drewN' ?_ _)⟩
    · by_cases h330:dp < -330
      · go_enter Tryz.func189,Tryz.ntmps189
        go_wp2_with fail
        refine wp_scope_on ?_
        go_wp2_with fail
        go_step3
        refine ⟨_,rfl,?_⟩
        go_wp2_with fail
        cases ng
        · as_aux_lemma =>
            go_quiet (fail)
            go_wp2_with fail
            rw [Exit.noGoto_ret]
            go_ret2
            exact ⟨⟨0,_,rfl,by decide⟩,by repeat (first | exact Below.refl _ _ | refine Below.drewN' ?_ _)⟩
        · as_aux_lemma =>
            go_quiet (fail)
            go_wp2_with fail
            go_quiet (fail)
            go_wp2_with fail
            rw [Exit.noGoto_ret]
            go_ret2
            exact ⟨⟨9223372036854775808,_,rfl,by decide⟩,by repeat (first | exact Below.refl _ _ | refine Below.drewN' ?_ _)⟩
      · have HF:Hid (FB g w ng dp (D 0) w):=⟨⟨D,n,tr,h,hG,rfl⟩,hC,hI,Below.refl _ _⟩
        have hf:=FB.fst HF
        generalize D 0=f at *
        clear hI hC hG h
        go_enter Tryz.func189,Tryz.ntmps189
        go_wp2_with fail
        refine wp_scope_on ?_
        go_upto_block 0 with fail
        go_cut [6,8] from 12 (fun ex _ W=>∃ (x dq:Int) (f':Nat),ex=.int .i64 x∧0≤x∧x≤200000∧dq≤0∧-400≤dq∧Hid (FB g w ng dq f' W))
        case first =>
          as_aux_lemma =>
            go_wp2_with fail
            go_loopw [6,8] (fun ex _ W=>∃ (x dq:Int) (f':Nat),ex=.int .i64 x∧0≤x∧x+27*(dq*10+(f':Int))≤27*3157∧-330≤dq∧dq≤310∧49≤f'∧f'≤57∧Hid (FB g w ng dq f' W)) (fun _ _ W=>(nuOf g W).toNat)
            case atStart=>exact ⟨0,dp,f,rfl,by omega,by omega,by omega,by omega,hf.1,hf.2,HF⟩
            case round =>
              clear HF hf c1 c2 c3 i1 i2 i3 h310 h330 hz
              obtain ⟨x,dq,f',rfl,hx0,hx1,hq0,hq1,hf0,hf1,HF⟩:=hrel
              have c2:=HF.out.dp
              by_cases hpos:0 < dq
              · obtain ⟨b,o,c,hb,p1,p2⟩:=HF.out.inf.pow
                obtain ⟨m,rfl⟩:∃ m:Nat,dq=(m:Int):=⟨dq.toNat,by omega⟩
                by_cases h9:9≤m
                · have h9':(9:Int)≤(m:Int):=by omega
                  have HS:Hid (∀ q,Calls Tryz.prog 115 #[.pointer (some ⟨g,0,none⟩),.int .i64 (-27)] (wr.drewN q) fun e w'=>e=.returned (.tuple #[])∧FBR 27 g w ng (m:Int) f' w'):=fun q=>fb_right (HF.out.drewN q) 27 (by omega) (by omega) (by omega) (by omega)
                  clear p2
                  as_aux_lemma =>
                    go_wp2_with fail
                    go_quiet (fail)
                    go_wp2_with (first
                      | (go_at_call 115;with_reducible refine (HS.out _).mono ?_;rintro e' w' ⟨rfl,ht⟩)
                      | fail)
                    obtain ⟨dq',f2,hF',hmv,hlo⟩:=ht
                    have hf2:=FB.fst hF'
                    refine ⟨⟨x+27,dq',f2,rfl,by omega,by omega,by omega,by omega,hf2.1,hf2.2,hF'⟩,?_⟩
                    rw [hF'.nu,HF.out.nu]
                    omega
                · have h9':¬ (9:Int)≤(m:Int):=by omega
                  have hm9:(m:Int) < 9:=by omega
                  have p3:=p2 m (by omega)
                  obtain ⟨k0,k1⟩:=powN_ok m (by omega)
                  have HS:Hid (∀ q,Calls Tryz.prog 115 #[.pointer (some ⟨g,0,none⟩),.int .i64 (-(powN m:Int))] (wr.drewN q) fun e w'=>e=.returned (.tuple #[])∧FBR (powN m) g w ng (m:Int) f' w'):=fun q=>fb_right (HF.out.drewN q) (powN m) (by omega) (by omega) (by omega) (by omega)
                  generalize powN m=k at *
                  clear p2
                  as_aux_lemma =>
                    go_wp2_with fail
                    go_quiet (fail)
                    go_wp2_with fail
                    go_quiet (fail)
                    go_wp2_with (first
                      | (go_at_call 115;with_reducible refine (HS.out _).mono ?_;rintro e' w' ⟨rfl,ht⟩)
                      | fail)
                    obtain ⟨dq',f2,hF',hmv,hlo⟩:=ht
                    have hf2:=FB.fst hF'
                    refine ⟨⟨x+(k:Int),dq',f2,rfl,by omega,by omega,by omega,by omega,hf2.1,hf2.2,hF'⟩,?_⟩
                    rw [hF'.nu,HF.out.nu]
                    omega
              · as_aux_lemma =>
                  go_wp2_with fail
                  go_meet
                  exact ⟨x,dq,f',rfl,by omega,by omega,by omega,by omega,HF⟩
        case rest =>
        clear HF hf c1 c2 c3 i1 i2 i3 h310 h330 hz
        obtain ⟨x,dq,f1,rfl,hx0,hx1,hq1,hq0,HF⟩:=hcut
        go_upto_block 2 with fail
        go_cut [6,9] from 12 (fun ex _ W=>∃ (x dq:Int) (f':Nat),ex=.int .i64 x∧-200000≤x∧x≤200000∧-400≤dq∧dq≤100∧Hid (FB g w ng dq f' W))
        case first =>
          have hf:=HF.out.fst
          as_aux_lemma =>
            go_wp2_with fail
            go_loopw [6,9] (fun ex _ W=>∃ (x dq:Int) (f':Nat),ex=.int .i64 x∧x≤200000∧27*(-4000)≤x+27*(dq*10+(f':Int))∧-400≤dq∧dq≤100∧49≤f'∧f'≤57∧Hid (FB g w ng dq f' W)) (fun _ _ W=>(2000 - nuOf g W).toNat)
            case atStart=>exact ⟨x,dq,f1,rfl,by omega,by omega,by omega,by omega,hf.1,hf.2,HF⟩
            case round =>
              clear HF hf hx0 hx1 hq1 hq0
              obtain ⟨x,dq,f',rfl,hx1,hx0,hq0,hq1,hf0,hf1,HF⟩:=hrel
              have c2:=HF.out.dp
              have c4:=HF.out.d0
              obtain ⟨b,o,c,hb,p1,p2⟩:=HF.out.inf.pow
              by_cases hneg:dq < 0
              · obtain ⟨m,rfl⟩:∃ m:Nat,dq=-(m:Int):=⟨(-dq).toNat,by omega⟩
                by_cases h9:9≤m
                · have h9':(9:Int)≤(m:Int):=by omega
                  have HS:Hid (∀ q,Calls Tryz.prog 115 #[.pointer (some ⟨g,0,none⟩),.int .i64 27] (wr.drewN q) fun e w'=>e=.returned (.tuple #[])∧FBL 27 g w ng (-(m:Int)) f' w'):=fun q=>fb_left (HF.out.drewN q) 27 (by omega) (by omega) (by omega) (by omega)
                  clear p2
                  as_aux_lemma =>
                    go_wp2_with fail
                    go_quiet (fail)
                    go_wp2_with (first
                      | (go_at_call 115;with_reducible refine (HS.out _).mono ?_;rintro e' w' ⟨rfl,ht⟩)
                      | fail)
                    obtain ⟨dq',f2,hF',hmv,hlo⟩:=ht
                    have hf2:=FB.fst hF'
                    refine ⟨⟨x - 27,dq',f2,rfl,by omega,by omega,by omega,by omega,hf2.1,hf2.2,hF'⟩,?_⟩
                    rw [hF'.nu,HF.out.nu]
                    omega
                · have h9':¬ (9:Int)≤(m:Int):=by omega
                  have hm9:(m:Int) < 9:=by omega
                  have p3:=p2 m (by omega)
                  obtain ⟨k0,k1⟩:=powN_ok m (by omega)
                  have HS:Hid (∀ q,Calls Tryz.prog 115 #[.pointer (some ⟨g,0,none⟩),.int .i64 (powN m:Int)] (wr.drewN q) fun e w'=>e=.returned (.tuple #[])∧FBL (powN m) g w ng (-(m:Int)) f' w'):=fun q=>fb_left (HF.out.drewN q) (powN m) (by omega) (by omega) (by omega) (by omega)
                  generalize powN m=k at *
                  clear p2
                  as_aux_lemma =>
                    go_wp2_with fail
                    go_quiet (fail)
                    go_wp2_with fail
                    go_quiet (fail)
                    go_wp2_with (first
                      | (go_at_call 115;with_reducible refine (HS.out _).mono ?_;rintro e' w' ⟨rfl,ht⟩)
                      | fail)
                    obtain ⟨dq',f2,hF',hmv,hlo⟩:=ht
                    have hf2:=FB.fst hF'
                    refine ⟨⟨x - (k:Int),dq',f2,rfl,by omega,by omega,by omega,by omega,hf2.1,hf2.2,hF'⟩,?_⟩
                    rw [hF'.nu,HF.out.nu]
                    omega
              · by_cases hz:dq=0
                · subst hz
                  by_cases h53:f' < 53
                  · have h53':(f':Int) < 53:=by omega
                    have p3:=p2 0 (by omega)
                    have HS:Hid (∀ q,Calls Tryz.prog 115 #[.pointer (some ⟨g,0,none⟩),.int .i64 1] (wr.drewN q) fun e w'=>e=.returned (.tuple #[])∧FBL 1 g w ng 0 f' w'):=fun q=>fb_left (HF.out.drewN q) 1 (by omega) (by omega) (by omega) (by omega)
                    rw [show powN 0=1 from rfl,Nat.add_zero] at p3
                    clear p2
                    as_aux_lemma =>
                      go_wp2_with fail
                      go_quiet (fail)
                      go_wp2_with fail
                      go_quiet (fail)
                      go_wp2_with (first
                        | (go_at_call 115;with_reducible refine (HS.out _).mono ?_;rintro e' w' ⟨rfl,ht⟩)
                        | fail)
                      obtain ⟨dq',f2,hF',hmv,hlo⟩:=ht
                      have hf2:=FB.fst hF'
                      refine ⟨⟨x - 1,dq',f2,rfl,by omega,by omega,by omega,by omega,hf2.1,hf2.2,hF'⟩,?_⟩
                      rw [hF'.nu,HF.out.nu]
                      omega
                  · have h53':¬ (f':Int) < 53:=by omega
                    clear p2
                    as_aux_lemma =>
                      go_wp2_with fail
                      go_meet
                      exact ⟨x,0,f',rfl,by omega,by omega,by omega,by omega,HF⟩
                · have hz':(dq == 0)=false:=by rw [beq_eq_false_iff_ne];exact hz
                  clear p2
                  as_aux_lemma =>
                    go_wp2_with fail
                    go_meet
                    exact ⟨x,dq,f',rfl,by omega,by omega,by omega,by omega,HF⟩
        case rest =>
        clear HF hx0 hx1 hq1 hq0
        obtain ⟨x,dq,f1,rfl,hx0,hx1,hq0,hq1,HF⟩:=hcut
        have i3:=HF.out.inf.bias
        go_upto_if 111 with fail
        go_cut [6,10] from 12 (fun ex _ W=>∃ (x dq:Int) (f':Nat),ex=.int .i64 x∧-1022≤x∧x≤200000∧-500000≤dq∧dq≤100∧Hid (FB g w ng dq f' W))
        case first =>
          by_cases hs:x - 1 < -1022
          · obtain ⟨N,hN⟩:∃ N:Nat,-1022 - (x - 1)=(N:Int):=⟨(-1022 - (x - 1)).toNat,by omega⟩
            have HS:Hid (Calls Tryz.prog 115 #[.pointer (some ⟨g,0,none⟩),.int .i64 (-(N:Int))] wc fun e w'=>e=.returned (.tuple #[])∧FBR N g w ng dq f1 w'):=fb_right HF.out N (by omega) (by omega) (by omega) (by omega)
            as_aux_lemma =>
              go_wp2_with (first
                | (go_at_call 115;with_reducible refine Calls.mono HS.out ?_;rintro e' w' ⟨rfl,ht⟩)
                | fail)
              go_meet
              obtain ⟨dq',f2,hF',hmv,hlo⟩:=ht
              exact ⟨x - 1+(N:Int),dq',f2,rfl,by omega,by omega,by omega,by omega,hF'⟩
          · as_aux_lemma =>
              go_wp2_with fail
              go_meet
              exact ⟨x - 1,dq,f1,rfl,by omega,by omega,by omega,by omega,HF⟩
        case rest =>
        clear HF hx0 hx1 hq1 hq0 i3
        obtain ⟨x,dq,f1,rfl,hx0,hx1,hq0,hq1,HF⟩:=hcut
        have i1:=HF.out.inf.m52
        have i2:=HF.out.inf.e11
        have i3:=HF.out.inf.bias
        have c3:=HF.out.neg
        by_cases hov:1024≤x
        · have hov':(2047:Int)≤x+1023:=by omega
          go_wp2_with fail
          go_quiet (fail)
          go_wp2_with fail
          go_step3
          refine ⟨_,rfl,?_⟩
          go_wp2_with fail
          go_quiet (fail)
          go_wp2_with fail
          go_step3
          go_wp2_with fail
          cases ng
          · as_aux_lemma =>
              go_quiet (fail)
              go_wp2_with fail
              rw [Exit.noGoto_ret]
              go_ret2
              exact ⟨⟨9218868437227405312,_,rfl,by decide⟩,by repeat (first | exact HF.out.bel | refine Below.drewN' ?_ _)⟩
          · as_aux_lemma =>
              go_quiet (fail)
              go_wp2_with fail
              go_quiet (fail)
              go_wp2_with fail
              rw [Exit.noGoto_ret]
              go_ret2
              exact ⟨⟨18442240474082181120,_,rfl,by decide⟩,by repeat (first | exact HF.out.bel | refine Below.drewN' ?_ _)⟩
        · have hov':¬ (2047:Int)≤x+1023:=by omega
          have HS:Hid (∀ q,Calls Tryz.prog 115 #[.pointer (some ⟨g,0,none⟩),.int .i64 53] (wc.drewN q) fun e w'=>e=.returned (.tuple #[])∧FBL 53 g w ng dq f1 w'):=fun q=>fb_left (HF.out.drewN q) 53 (by omega) (by omega) (by omega) (by omega)
          go_wp2_with fail
          go_quiet (fail)
          go_wp2_with (first
            | (go_at_call 115;with_reducible refine (HS.out _).mono ?_;rintro e' w2 ⟨rfl,ht⟩)
            | fail)
          clear HF HS i1 i2 i3 c3
          obtain ⟨dq',f2,hF',hmv,hlo⟩:=ht
          have HF:Hid _:=hF'
          have i1:=HF.out.inf.m52
          have i2:=HF.out.inf.e11
          have i3:=HF.out.inf.bias
          have c3:=HF.out.neg
          refine (fb_int hF' (by omega) (by omega)).mono ?_
          rintro e' w3 ⟨⟨v,rfl,hv⟩,rfl⟩
          clear hF' hmv hlo
          go_upto_if 155 with fail
          go_cut [6,7] from 12 (fun ex mn W=>∃ (x:Int) (v:Nat) (dq:Int) (f':Nat),ex=.int .i64 x∧-1022≤x∧x≤1023∧mn=.int .u64 (v:Int)∧v < 18446744073709551616∧Hid (FB g w ng dq f' W))
          case first =>
            by_cases hv2:v=9007199254740992
            · subst hv2
              by_cases hx3:x=1023
              · subst hx3
                as_aux_lemma =>
                  go_wp2_with fail
                  go_quiet (fail)
                  go_wp2_with fail
                  go_step3
                  refine ⟨_,rfl,?_⟩
                  go_wp2_with fail
                  go_quiet (fail)
                  go_wp2_with fail
                  go_step3
                  go_wp2_with fail
                  cases ng
                  · as_aux_lemma =>
                      go_quiet (fail)
                      go_wp2_with fail
                      rw [Exit.noGoto_ret]
                      go_ret2
                      exact ⟨⟨9218868437227405312,_,rfl,by decide⟩,by repeat (first | exact HF.out.bel | refine Below.drewN' ?_ _)⟩
                  · as_aux_lemma =>
                      go_quiet (fail)
                      go_wp2_with fail
                      go_quiet (fail)
                      go_wp2_with fail
                      rw [Exit.noGoto_ret]
                      go_ret2
                      exact ⟨⟨18442240474082181120,_,rfl,by decide⟩,by repeat (first | exact HF.out.bel | refine Below.drewN' ?_ _)⟩
              · have hov2:¬ (2047:Int)≤x+1+1023:=by omega
                as_aux_lemma =>
                  go_wp2_with fail
                  go_quiet (fail)
                  go_wp2_with fail
                  go_meet
                  exact ⟨x+1,4503599627370496,dq',f2,rfl,by omega,by omega,rfl,by decide,HF.out.drewN _⟩
            · have t155:((v:Int) == 9007199254740992)=false:=by rw [beq_eq_false_iff_ne];omega
              as_aux_lemma =>
                go_wp2_with fail
                go_meet
                exact ⟨x,v,dq',f2,rfl,by omega,by omega,rfl,hv,HF⟩
          case rest =>
          clear HF i1 i2 i3 c3 hv hx0 hx1
          obtain ⟨x,v,dq,f3,rfl,hx0,hx1,rfl,hv,HF⟩:=hcut
          have i1:=HF.out.inf.m52
          have i2:=HF.out.inf.e11
          have i3:=HF.out.inf.bias
          have c3:=HF.out.neg
          obtain ⟨Z,hZ⟩:∃ Z:Nat,bits .and .u64 (v:Int) 4503599627370496=(Z:Int):=⟨_,u64_and_nat v 4503599627370496 hv (by decide)⟩
          go_upto_if 180 with fail
          go_cut [6] from 12 (fun ex W=>∃ X:Nat,X≤2046∧ex=.int .i64 ((X:Int) - 1023)∧W=wc)
          case first =>
            rcases Nat.eq_zero_or_pos Z with hz | hz
            · subst hz
              as_aux_lemma =>
                go_wp2_with fail
                go_meet
                exact ⟨0,by omega,congrArg (Value.int .i64) (by omega),rfl⟩
            · have hz':((Z:Int) == 0)=false:=by rw [beq_eq_false_iff_ne];omega
              obtain ⟨X,hX⟩:∃ X:Nat,x+1023=(X:Int):=⟨(x+1023).toNat,by omega⟩
              as_aux_lemma =>
                go_wp2_with fail
                go_meet
                exact ⟨X,by omega,congrArg (Value.int .i64) (by omega),rfl⟩
          case rest =>
          obtain ⟨X,hX,rfl,rfl⟩:=hcut
          obtain ⟨A,C,S,ha,hb,hc,hs,lc,ls⟩:=tail_of v X hv (by omega)
          have hXX:(X:Int) - 1023+1023=(X:Int):=by omega
          have hXm:X*4503599627370496 < 18446744073709551616:=by omega
          clear hZ hx0 hx1 ha0 hb0 hb1 hc0 hc1 hs0 hs1
          go_wp2_with fail
          go_step3
          refine ⟨_,rfl,?_⟩
          go_wp2_with fail
          cases ng
          · as_aux_lemma =>
              go_quiet (fail)
              go_wp2_with fail
              rw [Exit.noGoto_ret]
              go_ret2
              exact ⟨⟨C,_,rfl,lc⟩,by repeat (first | exact HF.out.bel | refine Below.drewN' ?_ _)⟩
          · as_aux_lemma =>
              go_quiet (fail)
              go_wp2_with fail
              go_quiet (fail)
              go_wp2_with fail
              rw [Exit.noGoto_ret]
              go_ret2
              exact ⟨⟨S,_,rfl,ls⟩,by repeat (first | exact HF.out.bel | refine Below.drewN' ?_ _)⟩
end Go.Proofs.YtifapjammoahgaaGreatDoor.Rl
