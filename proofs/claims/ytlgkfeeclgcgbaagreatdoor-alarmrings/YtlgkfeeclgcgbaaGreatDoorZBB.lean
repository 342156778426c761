/- WHAT A VALUE HOLDS: holds, the code's. Own work of the verifier. -/
import Derived.Test.YtlgkfeeclgcgbaaGreatDoorZBA
set_option maxRecDepth 100000
set_option maxHeartbeats 4000000
namespace Go.Proofs.YtlgkfeeclgcgbaaGreatDoor
open Go.RowKit Me
theorem mayE_set (p:Int) (C:List Cn):mayE p C=0∨mayE p C=1∨mayE p C=2∨mayE p C=3∨mayE p C=15∨mayE p C=16:=by
 have hb:∀ N i,bad N C i=0∨bad N C i=2∨bad N C i=15∨bad N C i=16:=fun N i=>by
  unfold bad
  split
  ·simp
  ·split
   ·simp
   ·split <;> simp
 rcases mayE_is p C with ⟨_,h⟩ | ⟨_,⟨i,_,_,_,h⟩ | ⟨_,h⟩⟩
 ·omega
 ·have:=hb ((64 - p.toNat)*2 ^ p.toNat) i
  omega
 ·split at h <;> omega
theorem hcounts_any (p : Int) (x : Vl) (la ca : Option Addr) (lc cc : Nat) (h : VW x) (w : World) (hl : SLb w (.slice la x.d.labels.length lc) x.d.labels) (hc : SN w (.slice ca x.cs.length cc) x.cs) :
    Calls Tryz.prog 67 #[.int .i64 p, vx x (.slice la x.d.labels.length lc) (.slice ca x.cs.length cc)] w fun e w' => e = .returned (.bool (cntB p x)) ∧ Below w.heap.size w w' := by
  have hm := mayE_is p x.cs
  by_cases h0 : mayE p x.cs = 0
  · rw [h0] at hm
    have hp := (may_ok hm).1
    obtain ⟨P, rfl⟩ := Int.eq_ofNat_of_zero_le (by omega : 0 ≤ p)
    by_cases hn : x.n = tot x.cs
    · have e : cntB (P : Int) x = btw (P : Int) x := by unfold cntB; rw [decide_eq_true h0, decide_eq_true hn]; rfl
      rw [e]
      exact hc_loop P x la ca lc cc h w hl hc hm hn
    · have e : cntB (P : Int) x = false := by unfold cntB; rw [decide_eq_true h0, decide_eq_false hn]; rfl
      rw [e]
      have HMay : Hid (∀ W, S1h w x (.slice la x.d.labels.length lc) (.slice ca x.cs.length cc) W → Calls Tryz.prog 84 #[.int .i64 (P : Int), .slice ca x.cs.length cc] W fun e w' => e = .returned (.int .i64 0) ∧ Below W.heap.size W w') := fun W k => may_any W _ _ _ 0 k.2.2.c h.cs h.cl hm
      have HTot : Hid (∀ W, S1h w x (.slice la x.d.labels.length lc) (.slice ca x.cs.length cc) W → Calls Tryz.prog 85 #[.slice ca x.cs.length cc] W fun e w' => e = .returned (.int .u64 (tot x.cs : Nat)) ∧ Below W.heap.size W w') := fun W k => total_any W _ _ k.2.2.c h.cs h.cl
      have HK0 : Hid (∀ T, KV w w.heap.size x (.slice la x.d.labels.length lc) (.slice ca x.cs.length cc) (w.alloc (.cells (vc x (.slice la x.d.labels.length lc) (.slice ca x.cs.length cc)) T))) := fun T => KV.new hl hc T
      have hn' : ((x.n : Int) != (tot x.cs : Int)) = true := by rw [bne_iff_ne]; omega
      clear hl hc hm h e h0 hn
      generalize tot x.cs = tt at *
      as_aux_lemma =>
      go_enter Tryz.func67, Tryz.ntmps67
      go_upto_region 1 with fail
      have hK := HK0.out 86
      obtain ⟨w0, hw0⟩ : ∃ w0, w.alloc (.cells (vc x (.slice la x.d.labels.length lc) (.slice ca x.cs.length cc)) 86) = w0 := ⟨_, rfl⟩
      have hw0' := hw0
      simp only [vc] at hw0'
      rw [hw0] at hK
      rw [hw0']
      have hG0 := (⟨hK.box.c6, hK.box.c7, hK⟩ : S1h w x (.slice la x.d.labels.length lc) (.slice ca x.cs.length cc) w0)
      clear hw0 hw0' HK0 hK
      go_region_held3 (fun W => W.cell? ⟨w.heap.size, 6, none⟩ = some (.slice ca x.cs.length cc) ∧ W.cell? ⟨w.heap.size, 7, none⟩ = some (.int .u64 (x.n : Int)) ∧ KV w w.heap.size x (.slice la x.d.labels.length lc) (.slice ca x.cs.length cc) W)
        (first | assumption | exact keepK (by assumption) (by assumption) | exact keepK (drew_bel _) hG0)
        (first
          | (go_at_call 84; with_reducible refine (HMay.out _ (by first | assumption | exact keepK (by assumption) (by assumption) | exact keepK (drew_bel _) hG0)).mono ?_; rintro e w1 ⟨rfl, hb1⟩)
          | (go_at_call 85; with_reducible refine (HTot.out _ (by first | assumption | exact keepK (by assumption) (by assumption) | exact keepK (drew_bel _) hG0)).mono ?_; rintro e w2 ⟨rfl, hb2⟩))
      rename_i hG1
      go_wp2_with fail
      go_ret
      exact ⟨rfl, hG1.2.2.bl⟩
  · have e : cntB p x = false := by unfold cntB; rw [decide_eq_false h0]; rfl
    rw [e]
    have HMay : Hid (∀ W, S1h w x (.slice la x.d.labels.length lc) (.slice ca x.cs.length cc) W → Calls Tryz.prog 84 #[.int .i64 p, .slice ca x.cs.length cc] W fun e w' => e = .returned (.int .i64 (mayE p x.cs)) ∧ Below W.heap.size W w') := fun W k => may_any W _ _ _ _ k.2.2.c h.cs h.cl hm
    have HK0 : Hid (∀ T, KV w w.heap.size x (.slice la x.d.labels.length lc) (.slice ca x.cs.length cc) (w.alloc (.cells (vc x (.slice la x.d.labels.length lc) (.slice ca x.cs.length cc)) T))) := fun T => KV.new hl hc T
    have hset := mayE_set p x.cs
    clear hl hc hm h e
    generalize mayE p x.cs = tt at *
    rcases hset with e | e | e | e | e | e
    · exact absurd e h0
    all_goals
     subst e
     clear h0
     as_aux_lemma =>
      go_enter Tryz.func67, Tryz.ntmps67
      go_upto_region 1 with fail
      have hK := HK0.out 86
      obtain ⟨w0, hw0⟩ : ∃ w0, w.alloc (.cells (vc x (.slice la x.d.labels.length lc) (.slice ca x.cs.length cc)) 86) = w0 := ⟨_, rfl⟩
      have hw0' := hw0
      simp only [vc] at hw0'
      rw [hw0] at hK
      rw [hw0']
      have hG0 := (⟨hK.box.c6, hK.box.c7, hK⟩ : S1h w x (.slice la x.d.labels.length lc) (.slice ca x.cs.length cc) w0)
      clear hw0 hw0' HK0 hK
      have hG0d := keepK (drew_bel _) hG0
      obtain ⟨p6, p7, _⟩ := hG0d
      first
        | (go_region_with (go_at_call 84; with_reducible refine (HMay.out _ (keepK (drew_bel _) hG0)).mono ?_; rintro e w1 ⟨rfl, hb1⟩; have hbl := hb1))
        | fail
      all_goals
        go_wp2_with fail
        go_ret
        exact ⟨rfl, bt (bt hG0.2.2.bl (drew_bel _)) hb1⟩
def flB (x:Vl):Bool:=if 9223372036854775807 < x.n then false else if x.n=0 then fz x else Re.finF x.sum && Re.finF x.mn && Re.finF x.mx && decide (Re.sg (Re.rk x.mn) (Re.rk x.mx)≤0)
theorem hfloats_any (x:Vl) (lv cv:Value) (h:VW x) (w:World) :
  Calls Tryz.prog 68 #[vx x lv cv] w fun e w'=>e=.returned (.bool (flB x))∧Below w.heap.size w w':=by
 unfold flB
 have HN:Hid (∀ W,_):=nofl_any x lv cv h
 have HB:Hid (∀ T,B11 (w.alloc (.cells (vc x lv cv) T)) w.heap.size x lv cv):=fun T=>newB11 w x lv cv T
 by_cases h1:9223372036854775807 < x.n
 ·rw [if_pos h1]
  have h1':(9223372036854775807:Int) < (x.n:Int):=by omega
  clear HN HB h
  as_aux_lemma =>
   go_enter Tryz.func68,Tryz.ntmps68
   go_wp2_with fail
   go_ret
   exact ⟨rfl,bel1 w _⟩
 ·rw [if_neg h1]
  have h1':¬ (9223372036854775807:Int) < (x.n:Int):=by omega
  by_cases h2:x.n=0
  ·rw [if_pos h2]
   have h2':((x.n:Int) == 0)=true:=by rw [beq_iff_eq];omega
   generalize fz x=z at *
   clear h h1 h2
   as_aux_lemma =>
    go_enter Tryz.func68,Tryz.ntmps68
    go_wp2_with (go_at_call 66;with_reducible refine (HN.out _).mono ?_;rintro e w1 ⟨rfl,hb⟩)
    go_ret
    exact ⟨rfl,bt (bel1 w _) hb⟩
  ·rw [if_neg h2]
   have h2':((x.n:Int) == 0)=false:=by rw [beq_eq_false_iff_ne];omega
   have H1:Hid (∀ W,_):=Re.cfin_any x.sum h.sum
   have H2:Hid (∀ W,_):=Re.cfin_any x.mn h.mn
   have H3:Hid (∀ W,_):=Re.cfin_any x.mx h.mx
   have H4:Hid (∀ W,_):=Re.compare_any x.mn x.mx h.mn h.mx
   clear h h1 h2 HN HB
   generalize Re.finF x.sum=a at *
   generalize Re.finF x.mn=b at *
   generalize Re.finF x.mx=c at *
   generalize Re.sg (Re.rk x.mn) (Re.rk x.mx)=d at *
   cases a <;> cases b <;> cases c
   all_goals as_aux_lemma =>
    go_enter Tryz.func68,Tryz.ntmps68
    go_wp2_with (first
     | (go_at_call 90;(first | (with_reducible refine (H1.out _).mono ?_) | (with_reducible refine (H2.out _).mono ?_) | (with_reducible refine (H3.out _).mono ?_));rintro e w1 ⟨rfl,rfl⟩)
     | (go_at_call 91;with_reducible refine (H4.out _).mono ?_;rintro e w1 ⟨rfl,rfl⟩))
    go_ret
    exact ⟨rfl,bel1 w _⟩
end Go.Proofs.YtlgkfeeclgcgbaaGreatDoor
/- WHICH VALUES MAY BE: holds, places, the code's. Own work of the verifier. -/
set_option maxRecDepth 100000
set_option maxHeartbeats 8000000
namespace Go.Proofs.YtlgkfeeclgcgbaaGreatDoor
open Go.RowKit Me
noncomputable def holdB (p:Int) (x:Vl):Bool :=
 if x.d.kind=1 then decide (0≤x.t) && decide (x.cs.length=0) && decide (x.n=0) && fz x
 else if x.d.kind=2 then cntB p x && fz x
 else decide (x.t=0) && decide (x.cs.length=0) && flB x
theorem cmp_ge (t:Int):decide (0≤cmp t 0)=decide (0≤t):=by
 apply decide_eq_decide.2
 unfold cmp
 split
 ·omega
 ·split <;> omega
theorem words_zero {t:Int} (h:InR t):(hiOf t == 0 && loOf t == 0)=decide (t=0):=by
 have h1:=val_hl t
 unfold val at h1
 by_cases e:t=0
 ·subst e;decide
 ·rw [decide_eq_false e]
  by_cases e1:hiOf t=0
  ·have:loOf t≠0:=fun e2=>e (by rw [e1,e2] at h1;omega)
   rw [beq_eq_false_iff_ne.2 this,Bool.and_false]
  ·rw [beq_eq_false_iff_ne.2 e1,Bool.false_and]
theorem holds_any (p:Int) (x:Vl) (v:Value) (h:VW x) (w:World) (hv:VAt w x v) :
  Calls Tryz.prog 50 #[.int .i64 p,v] w fun e w'=>e=.returned (.bool (holdB p x))∧Below w.heap.size w w':=by
 obtain ⟨lv,cv,rfl,hl,hc⟩:=hv
 obtain ⟨la,lc,rfl⟩:=hl.form
 obtain ⟨ca,cc,rfl⟩:=hc.form
 have HN:Hid (∀ W,Calls Tryz.prog 66 #[vx x (.slice la x.d.labels.length lc) (.slice ca x.cs.length cc)] W fun e w'=>e=.returned (.bool (fz x))∧Below W.heap.size W w'):=nofl_any x _ _ h
 have HF:Hid (∀ W,Calls Tryz.prog 68 #[vx x (.slice la x.d.labels.length lc) (.slice ca x.cs.length cc)] W fun e w'=>e=.returned (.bool (flB x))∧Below W.heap.size W w'):=hfloats_any x _ _ h
 have HC:Hid (∀ T,Calls Tryz.prog 67 #[.int .i64 p,vx x (.slice la x.d.labels.length lc) (.slice ca x.cs.length cc)] (w.alloc (.cells (vc x (.slice la x.d.labels.length lc) (.slice ca x.cs.length cc)) T)) fun e w'=>e=.returned (.bool (cntB p x))∧Below (w.alloc (.cells (vc x (.slice la x.d.labels.length lc) (.slice ca x.cs.length cc)) T)).heap.size (w.alloc (.cells (vc x (.slice la x.d.labels.length lc) (.slice ca x.cs.length cc)) T)) w'):=fun T=>hcounts_any p x la ca lc cc h _ (hl.below (bel1 _ _)) (hc.below (bel1 _ _))
 have HK:Hid (∀ T,B11 (w.alloc (.cells (vc x (.slice la x.d.labels.length lc) (.slice ca x.cs.length cc)) T)) w.heap.size x (.slice la x.d.labels.length lc) (.slice ca x.cs.length cc)):=fun T=>newB11 w x _ _ T
 have HS:Hid (∀ W,_):=sign_any x.t h.t
 have HZ:=hid_of (words_zero h.t)
 clear hl hc h
 unfold holdB
 generalize fz x=z at *
 generalize flB x=z2 at *
 by_cases k1:x.d.kind=1
 ·rw [if_pos k1]
  have k1':(x.d.kind == 1)=true:=by simpa using k1
  have hg:=cmp_ge x.t
  rw [← hg]
  clear HF HC HZ k1 hg
  generalize cmp x.t 0=s at *
  by_cases e1:0≤s
  ·rw [decide_eq_true e1,Bool.true_and]
   by_cases e2:x.cs.length=0
   ·rw [decide_eq_true e2,Bool.true_and]
    have e2':((x.cs.length:Int) == 0)=true:=by rw [beq_iff_eq];omega
    by_cases e3:x.n=0
    ·rw [decide_eq_true e3,Bool.true_and]
     have e3':((x.n:Int) == 0)=true:=by rw [beq_iff_eq];omega
     clear e2 e3
     as_aux_lemma =>
      go_enter Tryz.func50,Tryz.ntmps50
      go_wp2_with (first
       | (go_at_call 65;with_reducible refine (HS.out _).mono ?_;rintro e w1 ⟨rfl,hb1⟩;obtain ⟨c0,c1,c2,c3,c4,c5,c6,c7,c8,c9,c10⟩:=(HK.out 86).below hb1)
       | (go_at_call 66;with_reducible refine (HN.out _).mono ?_;rintro e w2 ⟨rfl,hb2⟩))
      go_ret
      exact ⟨rfl,bt (bt (bel1 w _) hb1) hb2⟩
    ·rw [decide_eq_false e3,Bool.false_and]
     have e3':((x.n:Int) == 0)=false:=by rw [beq_eq_false_iff_ne];omega
     clear e2 e3
     as_aux_lemma =>
      go_enter Tryz.func50,Tryz.ntmps50
      go_wp2_with (first
       | (go_at_call 65;with_reducible refine (HS.out _).mono ?_;rintro e w1 ⟨rfl,hb1⟩;obtain ⟨c0,c1,c2,c3,c4,c5,c6,c7,c8,c9,c10⟩:=(HK.out 86).below hb1))
      go_ret
      exact ⟨rfl,bt (bel1 w _) hb1⟩
   ·rw [decide_eq_false e2,Bool.false_and,Bool.false_and]
    have e2':((x.cs.length:Int) == 0)=false:=by rw [beq_eq_false_iff_ne];omega
    clear e2
    as_aux_lemma =>
     go_enter Tryz.func50,Tryz.ntmps50
     go_wp2_with (first
      | (go_at_call 65;with_reducible refine (HS.out _).mono ?_;rintro e w1 ⟨rfl,hb1⟩;obtain ⟨c0,c1,c2,c3,c4,c5,c6,c7,c8,c9,c10⟩:=(HK.out 86).below hb1))
     go_ret
     exact ⟨rfl,bt (bel1 w _) hb1⟩
  ·rw [decide_eq_false e1,Bool.false_and,Bool.false_and,Bool.false_and]
   as_aux_lemma =>
    go_enter Tryz.func50,Tryz.ntmps50
    go_wp2_with (first
     | (go_at_call 65;with_reducible refine (HS.out _).mono ?_;rintro e w1 ⟨rfl,hb1⟩;obtain ⟨c0,c1,c2,c3,c4,c5,c6,c7,c8,c9,c10⟩:=(HK.out 86).below hb1))
    go_ret
    exact ⟨rfl,bt (bel1 w _) hb1⟩
 ·rw [if_neg k1]
  have k1':(x.d.kind == 1)=false:=by simpa using k1
  clear HS
  by_cases k2:x.d.kind=2
  ·rw [if_pos k2]
   have k2':(x.d.kind == 2)=true:=by simpa using k2
   clear HF HZ k1 k2
   generalize cntB p x=q at *
   cases q
   ·as_aux_lemma =>
     go_enter Tryz.func50,Tryz.ntmps50
     go_wp2_with (first
      | (go_at_call 67;with_reducible refine (HC.out _).mono ?_;rintro e w1 ⟨rfl,hb1⟩;obtain ⟨c0,c1,c2,c3,c4,c5,c6,c7,c8,c9,c10⟩:=(HK.out 86).below hb1))
     go_ret
     exact ⟨rfl,bt (bel1 w _) hb1⟩
   ·rw [Bool.true_and]
    as_aux_lemma =>
     go_enter Tryz.func50,Tryz.ntmps50
     go_wp2_with (first
      | (go_at_call 67;with_reducible refine (HC.out _).mono ?_;rintro e w1 ⟨rfl,hb1⟩;obtain ⟨c0,c1,c2,c3,c4,c5,c6,c7,c8,c9,c10⟩:=(HK.out 86).below hb1)
      | (go_at_call 66;with_reducible refine (HN.out _).mono ?_;rintro e w2 ⟨rfl,hb2⟩))
     go_ret
     exact ⟨rfl,bt (bt (bel1 w _) hb1) hb2⟩
  ·rw [if_neg k2]
   have k2':(x.d.kind == 2)=false:=by simpa using k2
   rw [← HZ.out]
   clear HC HN HZ k1 k2
   by_cases e0:hiOf x.t=0
   ·have e0':(hiOf x.t == 0)=true:=by simpa using e0
    clear e0
    by_cases e1:loOf x.t=0
    ·have e1':(loOf x.t == 0)=true:=by simpa using e1
     clear e1
     rw [e0',e1',show (true && true)=true from rfl,Bool.true_and]
     by_cases e2:x.cs.length=0
     ·rw [decide_eq_true e2,Bool.true_and]
      have e2':((x.cs.length:Int) == 0)=true:=by rw [beq_iff_eq];omega
      clear e2
      as_aux_lemma =>
       go_enter Tryz.func50,Tryz.ntmps50
       go_wp2_with (first
        | (go_at_call 68;with_reducible refine (HF.out _).mono ?_;rintro e w2 ⟨rfl,hb2⟩))
       go_ret
       exact ⟨rfl,bt (bel1 w _) hb2⟩
     ·rw [decide_eq_false e2,Bool.false_and]
      have e2':((x.cs.length:Int) == 0)=false:=by rw [beq_eq_false_iff_ne];omega
      clear e2
      as_aux_lemma =>
       go_enter Tryz.func50,Tryz.ntmps50
       go_wp2_with fail
       go_ret
       exact ⟨rfl,bel1 w _⟩
    ·have e1':(loOf x.t == 0)=false:=by simpa using e1
     rw [e0',e1',Bool.and_false,Bool.false_and,Bool.false_and]
     clear e1
     as_aux_lemma =>
      go_enter Tryz.func50,Tryz.ntmps50
      go_wp2_with fail
      go_ret
      exact ⟨rfl,bel1 w _⟩
   ·have e0':(hiOf x.t == 0)=false:=by simpa using e0
    rw [e0',Bool.false_and,Bool.false_and,Bool.false_and]
    clear e0
    as_aux_lemma =>
     go_enter Tryz.func50,Tryz.ntmps50
     go_wp2_with fail
     go_ret
     exact ⟨rfl,bel1 w _⟩
end Go.Proofs.YtlgkfeeclgcgbaaGreatDoor
/- WHICH SNAPSHOTS MAY BE: places, Check, the code's. Own work of the verifier. -/
set_option maxRecDepth 100000
set_option maxHeartbeats 4000000
namespace Go.Proofs.YtlgkfeeclgcgbaaGreatDoor
open Go.RowKit Me
theorem cser_any (x y:Vl) (v u:Value) (w:World) (hv:VAt w x v) (hu:VAt w y u) :
  Calls Tryz.prog 69 #[v,u] w fun e w'=>e=.returned (.int .i64 (La.ordD x.d y.d))∧Below w.heap.size w w':=by
 obtain ⟨lv,cv,rfl,hl,hc⟩:=hv
 obtain ⟨lw,cw,rfl,hl',hc'⟩:=hu
 have HC:Hid (∀ W,Below w.heap.size w W→Calls Tryz.prog 92 #[.agg #[.int .i64 x.d.kind,.string ⟨x.d.name.toArray⟩,.string ⟨x.d.help.toArray⟩,lv],.agg #[.int .i64 y.d.kind,.string ⟨y.d.name.toArray⟩,.string ⟨y.d.help.toArray⟩,lw]] W fun e w'=>e=.returned (.int .i64 (La.ordD x.d y.d))∧Below W.heap.size W w'):=fun W hb=>La.ccompare_any x.d y.d _ _ W (hl.below hb).dsc (hl'.below hb).dsc
 clear hl hc hl' hc'
 generalize La.ordD x.d y.d=z at *
 go_enter Tryz.func69,Tryz.ntmps69
 go_wp2_with (go_at_call 92;with_reducible refine (HC.out _ (bel2 w _ _)).mono ?_;rintro e w1 ⟨rfl,hb⟩)
 go_ret
 exact ⟨rfl,bt (bel2 w _ _) hb⟩
def unlB (x y:Vl):Bool:=decide (x.d.name=y.d.name) && (decide (x.d.kind≠y.d.kind) || decide (x.d.help≠y.d.help))
theorem unl_any (x y:Vl) (lv cv lw cw:Value) (w:World) :
  Calls Tryz.prog 70 #[vx x lv cv,vx y lw cw] w fun e w'=>e=.returned (.bool (unlB x y))∧Below w.heap.size w w':=by
 have he:unlB x y=(x.d.name == y.d.name && ((x.d.kind != y.d.kind) || !(x.d.help == y.d.help))):=by
  unfold unlB
  congr 1
  ·by_cases h:x.d.name=y.d.name
   ·rw [decide_eq_true h,h];simp
   ·rw [decide_eq_false h];simp [h]
  ·congr 1
   ·by_cases h:x.d.kind=y.d.kind
    ·rw [h];simp
    ·simp [h]
   ·by_cases h:x.d.help=y.d.help
    ·rw [h];simp
    ·simp [h]
 rw [he]
 clear he
 obtain ⟨a,ha⟩:∃ a,(x.d.name == y.d.name)=a:=⟨_,rfl⟩
 obtain ⟨b,hb⟩:∃ b,(x.d.kind == y.d.kind)=b:=⟨_,rfl⟩
 obtain ⟨c,hc⟩:∃ c,(x.d.help == y.d.help)=c:=⟨_,rfl⟩
 have hb':(x.d.kind != y.d.kind)=!b:=by rw [← hb];rfl
 rw [ha,hb',hc]
 cases a <;> cases b <;> cases c
 all_goals as_aux_lemma =>
  go_enter Tryz.func70,Tryz.ntmps70
  go_wp2_with fail
  go_ret
  exact ⟨rfl,bel2 w _ _⟩
def plV (x y:Vl):Int:=if La.ordD x.d y.d=0 then 10 else if 0 < La.ordD x.d y.d then 15 else if unlB x y then 12 else 0
theorem place_any (x y:Vl) (v u:Value) (w:World) (hv:VAt w x v) (hu:VAt w y u) :
  Calls Tryz.prog 51 #[v,u] w fun e w'=>e=.returned (.int .i64 (plV x y))∧Below w.heap.size w w':=by
 have hv0:=hv
 have hu0:=hu
 obtain ⟨lv,cv,rfl,hl,hc⟩:=hv
 obtain ⟨lw,cw,rfl,hl',hc'⟩:=hu
 have HC:Hid (∀ W,Below w.heap.size w W→Calls Tryz.prog 69 #[vx x lv cv,vx y lw cw] W fun e w'=>e=.returned (.int .i64 (La.ordD x.d y.d))∧Below W.heap.size W w'):=fun W hb=>cser_any x y _ _ W (hv0.below hb) (hu0.below hb)
 have HU:Hid (∀ W,Calls Tryz.prog 70 #[vx x lv cv,vx y lw cw] W fun e w'=>e=.returned (.bool (unlB x y))∧Below W.heap.size W w'):=unl_any x y lv cv lw cw
 have HK:Hid (∀ T,B11 ((w.alloc (.cells (vc x lv cv) T)).alloc (.cells (vc y lw cw) T)) w.heap.size x lv cv∧B11 ((w.alloc (.cells (vc x lv cv) T)).alloc (.cells (vc y lw cw) T)) (w.heap.size+1) y lw cw):=fun T=>⟨(KV.new2 hl hc hl' hc' T).1.box,(KV.new2 hl hc hl' hc' T).2.box⟩
 clear hl hc hl' hc' hv0 hu0
 unfold plV
 generalize La.ordD x.d y.d=z at *
 generalize unlB x y=q at *
 by_cases h0:z=0
 ·rw [if_pos h0]
  have h0':(z == 0)=true:=by simpa using h0
  clear HU HK h0
  as_aux_lemma =>
   go_enter Tryz.func51,Tryz.ntmps51
   go_wp2_with (go_at_call 69;with_reducible refine (HC.out _ (bel2 w _ _)).mono ?_;rintro e w1 ⟨rfl,hb⟩)
   go_ret
   exact ⟨rfl,bt (bel2 w _ _) hb⟩
 ·rw [if_neg h0]
  have h0':(z == 0)=false:=by simpa using h0
  by_cases h1:0 < z
  ·rw [if_pos h1]
   clear HU HK h0
   as_aux_lemma =>
    go_enter Tryz.func51,Tryz.ntmps51
    go_wp2_with (go_at_call 69;with_reducible refine (HC.out _ (bel2 w _ _)).mono ?_;rintro e w1 ⟨rfl,hb⟩)
    go_ret
    exact ⟨rfl,bt (bel2 w _ _) hb⟩
  ·rw [if_neg h1]
   clear h0
   cases q
   ·rw [if_neg (by decide)]
    as_aux_lemma =>
     go_enter Tryz.func51,Tryz.ntmps51
     go_wp2_with (first
      | (go_at_call 69;with_reducible refine (HC.out _ (bel2 w _ _)).mono ?_;rintro e w1 ⟨rfl,hb⟩;obtain ⟨c0,c1,c2,c3,c4,c5,c6,c7,c8,c9,c10⟩:=(HK.out 86).1.below hb;obtain ⟨d0,d1,d2,d3,d4,d5,d6,d7,d8,d9,d10⟩:=(HK.out 86).2.below hb)
      | (go_at_call 70;with_reducible refine (HU.out _).mono ?_;rintro e w2 ⟨rfl,hb2⟩))
     go_ret
     exact ⟨rfl,bt (bt (bel2 w _ _) hb) hb2⟩
   ·rw [if_pos rfl]
    as_aux_lemma =>
     go_enter Tryz.func51,Tryz.ntmps51
     go_wp2_with (first
      | (go_at_call 69;with_reducible refine (HC.out _ (bel2 w _ _)).mono ?_;rintro e w1 ⟨rfl,hb⟩;obtain ⟨c0,c1,c2,c3,c4,c5,c6,c7,c8,c9,c10⟩:=(HK.out 86).1.below hb;obtain ⟨d0,d1,d2,d3,d4,d5,d6,d7,d8,d9,d10⟩:=(HK.out 86).2.below hb)
      | (go_at_call 70;with_reducible refine (HU.out _).mono ?_;rintro e w2 ⟨rfl,hb2⟩))
     go_ret
     exact ⟨rfl,bt (bt (bel2 w _ _) hb) hb2⟩
end Go.Proofs.YtlgkfeeclgcgbaaGreatDoor
/- WHICH SNAPSHOTS MAY BE: checkValue, the code's. Own work of the verifier. -/
set_option maxRecDepth 100000
set_option maxHeartbeats 8000000
namespace Go.Proofs.YtlgkfeeclgcgbaaGreatDoor
open Go.RowKit Me
noncomputable def chk1 (p:Int) (q:Option Vl) (x:Vl):Int :=
 if La.chkD x.d≠0 then La.chkD x.d else if holdB p x=false then 2 else match q with | none=>0 | some y=>plV y x
noncomputable def chkV (p:Int):Option Vl→List Vl→Nat→Int × Nat
 | _,[],_=>(0,0)
 | q,x::r,i=>if chk1 p q x≠0 then (chk1 p q x,i) else chkV p (some x) r (i+1)
noncomputable def chkS (s:Sn):Int × Nat:=if s.p < 1∨14 < s.p then (1,0) else if 256 < s.vs.length then (3,256) else chkV s.p none s.vs 0
def prvV (L:List Vl) (i:Nat):Option Vl:=(L.take i).getLast?
theorem prvV_succ (L:List Vl) (i:Nat) (h:i < L.length):prvV L (i+1)=some L[i]:=by
 unfold prvV
 rw [List.take_succ_eq_append_getElem h,List.getLast?_append]
 simp
theorem chkV_drop (p:Int) (L:List Vl) (i:Nat) (h:i < L.length):chkV p (prvV L i) (L.drop i) i=if chk1 p (prvV L i) L[i]≠0 then (chk1 p (prvV L i) L[i],i) else chkV p (prvV L (i+1)) (L.drop (i+1)) (i+1):=by
 rw [List.drop_eq_getElem_cons h,chkV,prvV_succ L i h]
theorem infoV:(Tryz.prog.info? 86).map (fun i=>(i.zero,i.size,i.bytes))=some (some (.agg #[.int .i64 0,.string ⟨#[]⟩,.string ⟨#[]⟩,.slice none 0 0,.int .i64 0,.int .u64 0,.slice none 0 0,.int .u64 0,.float .f64 0,.float .f64 0,.float .f64 0]),11,136):=by kernel_rfl
theorem sizeV (W:World):(sizeOf 86).run Tryz.prog W=.ok 11 W:=by simp [sizeOf];rfl
theorem index_val (b o len cap j:Nat) (z:Int) (hz:z=(j:Int)) (hj:j < len) (W:World) :
  (Instr.indexAt 48 (.slice (some ⟨b,o,none⟩) len cap) (.int .i64 z)).run Tryz.prog W=.ok (.pointer (some ⟨b,o+j*11,none⟩)) W:=by
 subst hz
 have he:Tryz.prog.elem 48=86:=by simp [Program.elem,Tryz.underlying48]
 rw [run_indexAt_slice W 48 ⟨b,o,none⟩ len cap .i64 (j:Int) (by rw [he];exact Tryz.underlying48),if_pos (by omega),he,sizeV]
 simp [Addr.add]
abbrev cC (b o:Nat) (y:Vl) (lw cw:Value) (W:World):Prop:=W.cell? ⟨b,o,none⟩=some (.int .i64 y.d.kind)∧W.cell? ⟨b,o+1,none⟩=some (.string ⟨y.d.name.toArray⟩)∧W.cell? ⟨b,o+2,none⟩=some (.string ⟨y.d.help.toArray⟩)∧W.cell? ⟨b,o+3,none⟩=some lw∧W.cell? ⟨b,o+4,none⟩=some (.int .i64 (hiOf y.t))∧W.cell? ⟨b,o+5,none⟩=some (.int .u64 (loOf y.t))∧W.cell? ⟨b,o+6,none⟩=some cw∧W.cell? ⟨b,o+7,none⟩=some (.int .u64 (y.n:Int))∧W.cell? ⟨b,o+8,none⟩=some (.float .f64 y.sum)∧W.cell? ⟨b,o+9,none⟩=some (.float .f64 y.mn)∧W.cell? ⟨b,o+10,none⟩=some (.float .f64 y.mx)
abbrev cB (b:Nat) (y:Vl) (lw cw:Value) (W:World):Prop:=W.cell? ⟨b,0,none⟩=some (.int .i64 y.d.kind)∧W.cell? ⟨b,1,none⟩=some (.string ⟨y.d.name.toArray⟩)∧W.cell? ⟨b,2,none⟩=some (.string ⟨y.d.help.toArray⟩)∧W.cell? ⟨b,3,none⟩=some lw∧W.cell? ⟨b,4,none⟩=some (.int .i64 (hiOf y.t))∧W.cell? ⟨b,5,none⟩=some (.int .u64 (loOf y.t))∧W.cell? ⟨b,6,none⟩=some cw∧W.cell? ⟨b,7,none⟩=some (.int .u64 (y.n:Int))∧W.cell? ⟨b,8,none⟩=some (.float .f64 y.sum)∧W.cell? ⟨b,9,none⟩=some (.float .f64 y.mn)∧W.cell? ⟨b,10,none⟩=some (.float .f64 y.mx)
theorem C11.cC {W:World} {b o:Nat} {y:Vl} {lw cw:Value} (h:C11 W b o y lw cw):cC b o y lw cw W:=⟨h.c0,h.c1,h.c2,h.c3,h.c4,h.c5,h.c6,h.c7,h.c8,h.c9,h.c10⟩
theorem B11.cB {W:World} {b:Nat} {y:Vl} {lw cw:Value} (h:B11 W b y lw cw):cB b y lw cw W:=⟨h.c0,h.c1,h.c2,h.c3,h.c4,h.c5,h.c6,h.c7,h.c8,h.c9,h.c10⟩
structure KR (b o:Nat) (y:Vl) (lw cw:Value) (W:World):Prop where
 c:C11 W b o y lw cw
 l:SLb W lw y.d.labels
 n:SN W cw y.cs
theorem KR.below {b o:Nat} {y:Vl} {lw cw:Value} {W W1:World} (h:KR b o y lw cw W) (hb:Below W.heap.size W W1):KR b o y lw cw W1:=⟨h.c.below hb,h.l.below hb,h.n.below hb⟩
theorem KR.at {b o:Nat} {y:Vl} {lw cw:Value} {W:World} (h:KR b o y lw cw W):VAt W y (vx y lw cw):=⟨lw,cw,rfl,h.l,h.n⟩
theorem KV.at {w W:World} {b:Nat} {y:Vl} {lw cw:Value} (h:KV w b y lw cw W):VAt W y (vx y lw cw):=⟨lw,cw,rfl,h.l,h.c⟩
abbrev S8h (w:World) (b o c:Nat) (x y:Vl) (lv cv lw cw:Value) (W:World):Prop:=cC b o y lw cw W∧cB c x lv cv W∧KV w c x lv cv W∧KR b o y lw cw W
theorem s8_of {w W:World} {b o c:Nat} {x y:Vl} {lv cv lw cw:Value} (h:KV w c x lv cv W) (k:KR b o y lw cw W):S8h w b o c x y lv cv lw cw W:=⟨k.c.cC,h.box.cB,h,k⟩
theorem keep8 {w W W1:World} {b o c:Nat} {x y:Vl} {lv cv lw cw:Value} (hb:Below W.heap.size W W1) (h:S8h w b o c x y lv cv lw cw W):S8h w b o c x y lv cv lw cw W1:=s8_of (h.2.2.1.below hb) (h.2.2.2.below hb)
theorem cvalue_any (p:Int) (ao:Option Addr) (b o cap:Nat) (A:List Vl) (hao:A≠[]→ao=some ⟨b,o,none⟩) (hA:A.length≤256) (x:Vl) (v:Value) (h:VW x) (w:World) (hr:RowV w b o A) (hv:VAt w x v) :
  Calls Tryz.prog 31 #[.int .i64 p,.slice ao A.length cap,v] w fun e w'=>e=.returned (.int .i64 (chk1 p A.getLast? x))∧Below w.heap.size w w':=by
 have hv0:=hv
 obtain ⟨lv,cv,rfl,hl,hc⟩:=hv
 have HC:Hid (∀ W,Below w.heap.size w W→Calls Tryz.prog 49 #[.agg #[.int .i64 x.d.kind,.string ⟨x.d.name.toArray⟩,.string ⟨x.d.help.toArray⟩,lv]] W fun e w'=>e=.returned (.int .i64 (La.chkD x.d))∧Below W.heap.size W w'):=fun W hb=>La.ccheck_any x.d _ W (hl.below hb).dsc h.d
 have HH:Hid (∀ W,Below w.heap.size w W→Calls Tryz.prog 50 #[.int .i64 p,vx x lv cv] W fun e w'=>e=.returned (.bool (holdB p x))∧Below W.heap.size W w'):=fun W hb=>holds_any p x _ h W (hv0.below hb)
 have HK:Hid (∀ T,KV w w.heap.size x lv cv (w.alloc (.cells (vc x lv cv) T))):=fun T=>KV.new hl hc T
 have HR:=hid_of hr
 have HV:=hid_of hv0
 clear hl hc h hr hv0
 unfold chk1
 generalize La.chkD x.d=z at *
 by_cases hz:z=0
 ·rw [if_neg (by simpa using hz)]
  have hz':(z != 0)=false:=by simpa using hz
  clear hz
  generalize holdB p x=q at *
  cases q
  ·rw [if_pos rfl]
   as_aux_lemma =>
    go_enter Tryz.func31,Tryz.ntmps31
    go_wp2_with (first
     | (go_at_call 49;with_reducible refine (HC.out _ (bel1 w _)).mono ?_;rintro e w1 ⟨rfl,hb1⟩;obtain ⟨c0,c1,c2,c3,c4,c5,c6,c7,c8,c9,c10⟩:=((HK.out 86).below hb1).box)
     | (go_at_call 50;with_reducible refine (HH.out _ (bt (bel1 w _) hb1)).mono ?_;rintro e w2 ⟨rfl,hb2⟩))
    go_ret
    exact ⟨rfl,bt (bt (bel1 w _) hb1) hb2⟩
  ·rw [if_neg (by decide)]
   by_cases hA0:A.length=0
   ·have e:A=[]:=List.length_eq_zero_iff.1 hA0
    subst e
    clear HR hA0 hao
    as_aux_lemma =>
     go_enter Tryz.func31,Tryz.ntmps31
     go_wp2_with (first
      | (go_at_call 49;with_reducible refine (HC.out _ (bel1 w _)).mono ?_;rintro e w1 ⟨rfl,hb1⟩;obtain ⟨c0,c1,c2,c3,c4,c5,c6,c7,c8,c9,c10⟩:=((HK.out 86).below hb1).box)
      | (go_at_call 50;with_reducible refine (HH.out _ (bt (bel1 w _) hb1)).mono ?_;rintro e w2 ⟨rfl,hb2⟩))
     go_ret
     exact ⟨rfl,bt (bt (bel1 w _) hb1) hb2⟩
   ·obtain ⟨m,hm⟩:∃ m,m+1=A.length:=⟨A.length - 1,by omega⟩
    have hml:m < A.length:=by omega
    obtain rfl:=hao (fun e=>hA0 (by rw [e];rfl))
    have hlast:A.getLast? =some A[m]:=by
     rw [List.getLast?_eq_getElem?,show A.length - 1=m by omega,List.getElem?_eq_getElem hml]
    rw [hlast]
    obtain ⟨lw,cw,g1,g2,g3⟩:=HR.out m hml
    have HP:Hid (∀ W,S8h w b (o+m*11) w.heap.size x A[m] lv cv lw cw W→Calls Tryz.prog 51 #[vx A[m] lw cw,vx x lv cv] W fun e w'=>e=.returned (.int .i64 (plV A[m] x))∧Below W.heap.size W w'):=fun W k=>place_any A[m] x _ _ W k.2.2.2.at k.2.2.1.at
    have hA0':((A.length:Int) == 0)=false:=by rw [beq_eq_false_iff_ne];omega
    have hw:IntKind.i64.wrap ((A.length:Int) - 1)=(m:Int):=by rw [IntKind.wrap_i64];omega
    have hix:=index_val b o A.length cap m (m:Int) rfl hml
    have HG:=hid_of (⟨g1,g2,g3⟩:KR b (o+m*11) A[m] lw cw w)
    clear hlast hA0 hao HR g1 g2 g3 HV
    generalize A[m]=y at *
    as_aux_lemma =>
     go_enter Tryz.func31,Tryz.ntmps31
     go_upto_region 8 with (first
      | (go_at_call 49;with_reducible refine (HC.out _ (bel1 w _)).mono ?_;rintro e w1 ⟨rfl,hb1⟩;obtain ⟨c0,c1,c2,c3,c4,c5,c6,c7,c8,c9,c10⟩:=((HK.out 86).below hb1).box)
      | (go_at_call 50;with_reducible refine (HH.out _ (bt (bel1 w _) hb1)).mono ?_;rintro e w2 ⟨rfl,hb2⟩;have hK2:=((HK.out 86).below hb1).below hb2))
     have hS2:=s8_of hK2 (HG.out.below hK2.bl)
     clear HC HH HK HG c0 c1 c2 c3 c4 c5 c6 c7 c8 c9 c10
     go_region_held3 (fun W=>S8h w b (o+m*11) w.heap.size x y lv cv lw cw W)
      (first | assumption | exact keep8 (by assumption) (by assumption) | exact keep8 (drew_bel _) hS2)
      (first
       | (go_at_call 51;with_reducible refine (HP.out _ (by first | assumption | exact keep8 (by assumption) (by assumption) | exact keep8 (drew_bel _) hS2)).mono ?_;rintro e w3 ⟨rfl,hb3⟩))
     rename_i hS3
     go_wp2_with fail
     go_ret
     exact ⟨rfl,hS3.2.2.1.bl⟩
 ·rw [if_pos hz]
  have hz':(z != 0)=true:=by simpa using hz
  clear hz HH HK HR HV
  as_aux_lemma =>
   go_enter Tryz.func31,Tryz.ntmps31
   go_wp2_with (first
    | (go_at_call 49;with_reducible refine (HC.out _ (bel1 w _)).mono ?_;rintro e w1 ⟨rfl,hb1⟩))
   go_ret
   exact ⟨rfl,bt (bel1 w _) hb1⟩
end Go.Proofs.YtlgkfeeclgcgbaaGreatDoor
/- WHICH SNAPSHOTS MAY BE: Check, the code's. Own work of the verifier. -/
set_option maxRecDepth 100000
set_option maxHeartbeats 8000000
namespace Go.Proofs.YtlgkfeeclgcgbaaGreatDoor
open Go.RowKit Me
theorem RowV.take {W:World} {b o:Nat} {L:List Vl} (h:RowV W b o L) (i:Nat):RowV W b o (L.take i):=fun j hj=>by
 rw [List.length_take] at hj
 have:=h j (by omega)
 rw [List.getElem_take]
 exact this
structure KS (w:World) (ao:Option Addr) (b o cap:Nat) (s:Sn) (W:World):Prop where
 c0:W.cell? ⟨w.heap.size,0,none⟩=some (.int .i64 s.p)
 c1:W.cell? ⟨w.heap.size,1,none⟩=some (.slice ao s.vs.length cap)
 r:RowV W b o s.vs
 bl:Below w.heap.size w W
theorem KS.below {w W W1:World} {ao:Option Addr} {b o cap:Nat} {s:Sn} (h:KS w ao b o cap s W) (hb:Below W.heap.size W W1):KS w ao b o cap s W1:=⟨cellB hb h.c0,cellB hb h.c1,h.r.below hb,bt h.bl hb⟩
abbrev S9c (w:World) (ao:Option Addr) (b o cap:Nat) (s:Sn) (c:Nat) (y:Vl) (lw cw:Value) (W:World):Prop:=W.cell? ⟨w.heap.size,0,none⟩=some (.int .i64 s.p)∧W.cell? ⟨w.heap.size,1,none⟩=some (.slice ao s.vs.length cap)∧cC b c y lw cw W∧KS w ao b o cap s W∧KR b c y lw cw W
theorem keep9 {w W W1:World} {ao:Option Addr} {b o cap:Nat} {s:Sn} {c:Nat} {y:Vl} {lw cw:Value} (hb:Below W.heap.size W W1) (h:S9c w ao b o cap s c y lw cw W):S9c w ao b o cap s c y lw cw W1:=by
 have h1:=h.2.2.2.1.below hb
 have h2:=h.2.2.2.2.below hb
 exact ⟨h1.c0,h1.c1,h2.c.cC,h1,h2⟩
theorem check_any (s:Sn) (v:Value) (h:SnW s) (w:World) (hv:SnAt w s v) :
  Calls Tryz.prog 16 #[v] w fun e w'=>e=two (chkS s).1 ((chkS s).2:Nat)∧Below w.heap.size w w':=by
 obtain ⟨u,rfl,hu⟩:=hv
 obtain ⟨ao,b,o,cap,rfl,hao,hcap,hcap2,hr⟩:=hu.open
 have HK:Hid (∀ T,KS w ao b o cap s (w.alloc (.cells #[.int .i64 s.p,.slice ao s.vs.length cap,.int .u64 (s.r:Int)] T))):=fun T=>⟨by simp [go_sem],by simp [go_sem],hr.below (bel1 _ _),bel1 _ _⟩
 have HW:=hid_of h.vs
 clear hu hr h
 unfold chkS
 by_cases h1:s.p < 1
 ·rw [if_pos (Or.inl h1)]
  clear HK HW
  as_aux_lemma =>
   go_enter Tryz.func16,Tryz.ntmps16
   go_wp2_with fail
   go_ret2
   exact ⟨rfl,bel1 w _⟩
 by_cases h2:14 < s.p
 ·rw [if_pos (Or.inr h2)]
  clear HK HW
  as_aux_lemma =>
   go_enter Tryz.func16,Tryz.ntmps16
   go_wp2_with fail
   go_ret2
   exact ⟨rfl,bel1 w _⟩
 rw [if_neg (by omega)]
 by_cases h3:256 < s.vs.length
 ·rw [if_pos h3]
  have h3':(256:Int) < (s.vs.length:Int):=by omega
  clear HK HW
  as_aux_lemma =>
   go_enter Tryz.func16,Tryz.ntmps16
   go_wp2_with fail
   go_ret2
   exact ⟨rfl,bel1 w _⟩
 rw [if_neg h3]
 have h3':¬ (256:Int) < (s.vs.length:Int):=by omega
 obtain ⟨R,hR⟩:∃ R,R=chkV s.p none s.vs 0:=⟨_,rfl⟩
 rw [← hR]
 have HR0:Hid (R=chkV s.p (prvV s.vs 0) (s.vs.drop 0) 0):=hR
 clear hR
 go_enter Tryz.func16,Tryz.ntmps16
 go_upto_region 6 with fail
 go_loopw [21] (fun x W=>∃ i:Nat,i≤s.vs.length∧x=.int .i64 (i:Int)∧Hid (R=chkV s.p (prvV s.vs i) (s.vs.drop i) i)∧Hid (KS w ao b o cap s W)) (fun x _=>s.vs.length - (intOf x).toNat)
 case atStart=>exact ⟨0,by omega,rfl,HR0,HK.out _⟩
 case round =>
  clear HK HR0
  obtain ⟨i,hi,rfl,HR,HK⟩:=hrel
  by_cases hlt:i < s.vs.length
  ·have hlt':(i:Int) < (s.vs.length:Int):=by omega
   obtain rfl:=hao (by intro e;rw [e] at hlt;simp at hlt)
   obtain ⟨lw,cw,g1,g2,g3⟩:=HK.out.r i hlt
   have hS0:=(⟨HK.out.c0,HK.out.c1,g1.cC,HK.out,⟨g1,g2,g3⟩⟩:S9c w (some ⟨b,o,none⟩) b o cap s (o+i*11) s.vs[i] lw cw wr)
   have hlen:(s.vs.take i).length=i:=by rw [List.length_take];omega
   have HC:Hid (∀ W,S9c w (some ⟨b,o,none⟩) b o cap s (o+i*11) s.vs[i] lw cw W→Calls Tryz.prog 31 #[.int .i64 s.p,.slice (some ⟨b,o,none⟩) i cap,vx s.vs[i] lw cw] W fun e w'=>e=.returned (.int .i64 (chk1 s.p (prvV s.vs i) s.vs[i]))∧Below W.heap.size W w'):=fun W k=>by
    have:=cvalue_any s.p (some ⟨b,o,none⟩) b o cap (s.vs.take i) (fun _=>rfl) (by omega) s.vs[i] (vx s.vs[i] lw cw) (HW.out _ (List.getElem_mem hlt)) W (k.2.2.2.1.r.take i) k.2.2.2.2.at
    rw [hlen] at this
    exact this
   have hS:=HR.out
   rw [chkV_drop s.p s.vs i hlt] at hS
   have hix:=index_val b o s.vs.length cap i (i:Int) rfl hlt
   have hic:(i:Int)≤(cap:Int):=by omega
   clear HR HK g1 g2 g3 hlen HW hao
   generalize chk1 s.p (prvV s.vs i) s.vs[i]=z at *
   generalize s.vs[i]=y at *
   as_aux_lemma =>
   go_upto_region 8 with fail
   go_cut [5] from 24 to 35 (fun x W=>x=.int .i64 z∧Hid (KS w (some ⟨b,o,none⟩) b o cap s W))
   case first =>
    clear hS
    as_aux_lemma =>
     go_region_held3 (fun W=>S9c w (some ⟨b,o,none⟩) b o cap s (o+i*11) y lw cw W)
      (first | assumption | exact keep9 (by assumption) (by assumption) | exact keep9 (drew_bel _) hS0)
      (first
       | (go_at_call 31;with_reducible refine (HC.out _ (by first | assumption | exact keep9 (by assumption) (by assumption) | exact keep9 (drew_bel _) hS0)).mono ?_;rintro e w3 ⟨rfl,hb3⟩))
     rename_i hS3
     go_wp2_with fail
     go_meet
     exact ⟨rfl,hS3.2.2.2.1⟩
   case rest =>
   obtain ⟨rfl,HK⟩:=hcut
   clear hS0 HC
   by_cases hz:z=0
   ·rw [if_neg (by simpa using hz)] at hS
    have hz':(z != 0)=false:=by simpa using hz
    have HS:=hid_of hS
    clear hS hz
    as_aux_lemma =>
     go_wp2_with fail
     exact ⟨⟨i+1,by omega,by go_num,HS,HK⟩,by simp [intOf];omega⟩
   ·rw [if_pos hz] at hS
    have hz':(z != 0)=true:=by simpa using hz
    have HS:=hid_of hS
    clear hS hz
    as_aux_lemma =>
     go_wp2_with fail
     go_ret2
     exact ⟨by rw [HS.out];rfl,HK.out.bl⟩
  ·have hlt':¬ (i:Int) < (s.vs.length:Int):=by omega
   have hS:=HR.out
   rw [List.drop_eq_nil_of_le (by omega)] at hS
   have HS:Hid (R=(0,0)):=by unfold Hid;rw [hS];cases prvV s.vs i <;> rfl
   clear HR hS HW
   as_aux_lemma =>
    go_wp2_with fail
    go_ret2
    exact ⟨by rw [HS.out];rfl,HK.out.bl⟩
end Go.Proofs.YtlgkfeeclgcgbaaGreatDoor
