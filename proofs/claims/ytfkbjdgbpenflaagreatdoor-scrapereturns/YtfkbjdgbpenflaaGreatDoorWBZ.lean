/- WHICH SNAPSHOTS ARE THE SAME: in numbers, the definitions. Own work of the verifier. -/
import Derived.Test.YtfkbjdgbpenflaaGreatDoorWAQ
import Derived.Deep.RegionHeld3
set_option maxRecDepth 100000
set_option maxHeartbeats 8000000
namespace Go.Proofs.YtfkbjdgbpenflaaGreatDoor
open Go.RowKit Me
def smV (x y:Vl):Bool:=decide (x.d=y.d) && (decide (x.t=y.t) && (decide (x.cs=y.cs) && (decide (x.n=y.n) && sf x y)))
theorem words_eq {s t:Int} (_hs:InR s) (ht:InR t):(hiOf s == hiOf t && loOf s == loOf t)=decide (s=t):=by
 have h1:=val_hl s
 have h2:=val_hl t
 by_cases e:s=t
 ·subst e;simp
 ·rw [decide_eq_false e]
  by_cases e1:hiOf s=hiOf t
  ·have:loOf s≠loOf t:=fun e2=>e (by rw [← h1,← h2,e1,e2])
   rw [beq_eq_false_iff_ne.2 this,Bool.and_false]
  ·rw [beq_eq_false_iff_ne.2 e1,Bool.false_and]
def smQ:List Vl→List Vl→Bool
 | [],[]=>true
 | x::A,y::B=>smV x y && smQ A B
 | _,_=>false
theorem smQ_len {A B:List Vl} (h:A.length≠B.length):smQ A B=false:=by
 induction A generalizing B with
 | nil=>cases B with
  | nil=>exact absurd rfl h
  | cons y B=>rfl
 | cons x A ih=>cases B with
  | nil=>rfl
  | cons y B=>rw [smQ,ih (by simpa using h),Bool.and_false]
theorem smQ_drop (A B:List Vl) (i:Nat) (h1:i < A.length) (h2:i < B.length):smQ (A.drop i) (B.drop i)=(smV A[i] B[i] && smQ (A.drop (i+1)) (B.drop (i+1))):=by
 rw [List.drop_eq_getElem_cons h1,List.drop_eq_getElem_cons h2,smQ]
def smS (a b:Sn):Bool:=decide (a.p=b.p) && (decide (a.r=b.r) && smQ a.vs b.vs)
theorem sF_refl (f:Nat):Re.sF f f=true:=by
 unfold Re.sF Re.sg
 simp
theorem smV_refl (x:Vl):smV x x=true:=by
 unfold smV
 simp [sf,sF_refl]
theorem smQ_refl (A:List Vl):smQ A A=true:=by
 induction A with
 | nil=>rfl
 | cons x A ih=>rw [smQ,smV_refl,ih];rfl
theorem smS_refl (a:Sn):smS a a=true:=by
 unfold smS
 rw [smQ_refl]
 simp
theorem three_cells {W:World} {b:Nat} {x y z:Value} {t:TypeId} (h:W.heap[b]? =some (.cells #[x,y,z] t (0,0))):W.cell? ⟨b,0,none⟩=some x∧W.cell? ⟨b,1,none⟩=some y∧W.cell? ⟨b,2,none⟩=some z∧W.frozen? ⟨b,0,none⟩=false∧W.frozen? ⟨b,1,none⟩=false∧W.frozen? ⟨b,2,none⟩=false:=by
 refine ⟨?_,?_,?_,?_,?_,?_⟩ <;> simp [World.cell?,World.frozen?,h]
theorem smV_eq (x y:Vl):smV x y=(decide (x.d=y.d) && decide (x.cs=y.cs) && sf x y && decide (x.t=y.t) && decide (x.n=y.n)):=by
 unfold smV
 cases decide (x.d=y.d) <;> cases decide (x.cs=y.cs) <;> cases sf x y <;> cases decide (x.t=y.t) <;> cases decide (x.n=y.n) <;> rfl
theorem rsamev_any (x y:Vl) (v u:Value) (hx:VW x) (hy:VW y) (w:World) (hv:VAt w x v) (hu:VAt w y u) :
  Calls Tryz.prog 17 #[v,u] w fun e w'=>e=.returned (.bool (smV x y))∧Below w.heap.size w w':=by
 obtain ⟨lv,cv,rfl,hl,hc⟩:=hv
 obtain ⟨lw,cw,rfl,hl',hc'⟩:=hu
 obtain ⟨ca,cc,rfl⟩:=hc.form
 obtain ⟨ca',cc',rfl⟩:=hc'.form
 have HD:Hid (∀ W,Below w.heap.size w W→Calls Tryz.prog 34 #[.agg #[.int .i64 x.d.kind,.string ⟨x.d.name.toArray⟩,.string ⟨x.d.help.toArray⟩,lv],.agg #[.int .i64 y.d.kind,.string ⟨y.d.name.toArray⟩,.string ⟨y.d.help.toArray⟩,lw]] W fun e w'=>e=.returned (.bool (decide (x.d=y.d)))∧Below W.heap.size W w'):=fun W h=>La.dsame_any x.d y.d _ _ W (hl.below h).dsc.at (hl'.below h).dsc.at
 have HE:Hid (∀ W,Below w.heap.size w W→Calls Tryz.prog 35 #[.slice ca x.cs.length cc,.slice ca' y.cs.length cc'] W fun e w'=>e=.returned (.bool (decide (x.cs=y.cs)))∧Below W.heap.size W w'):=fun W h=>same_sn (hc.below h) (hc'.below h) (by have:=hx.cl;omega) (by have:=hy.cl;omega)
 have HF1:Hid (∀ W,_):=Re.refsame_any x.sum y.sum hx.sum hy.sum
 have HF2:Hid (∀ W,_):=Re.refsame_any x.mn y.mn hx.mn hy.mn
 have HF3:Hid (∀ W,_):=Re.refsame_any x.mx y.mx hx.mx hy.mx
 have HK:=hid_of (KV.new2 hl hc hl' hc' 45)
 have HT:=hid_of (words_eq hx.t hy.t)
 obtain ⟨R,hR⟩:∃ R,R=smV x y:=⟨_,rfl⟩
 rw [← hR]
 have HR:=hid_of (hR.trans (smV_eq x y))
 obtain ⟨la,lc,rfl⟩:=hl.form
 obtain ⟨la',lc',rfl⟩:=hl'.form
 clear hl hc hl' hc' hx hy hR
 go_enter Tryz.func17,Tryz.ntmps17
 go_upto_region 1 with fail
 obtain ⟨w0,hw0⟩:∃ w0,((w.alloc (.cells (vc x (.slice la x.d.labels.length lc) (.slice ca x.cs.length cc)) 45)).alloc (.cells (vc y (.slice la' y.d.labels.length lc') (.slice ca' y.cs.length cc')) 45))=w0:=⟨_,rfl⟩
 rw [hw0] at HK
 simp only [vc] at hw0
 rw [hw0]
 clear hw0
 obtain ⟨c0,c1,c2,c3,c4,c5,c6,c7,c8,c9,c10⟩:=HK.out.1.box
 obtain ⟨d0,d1,d2,d3,d4,d5,d6,d7,d8,d9,d10⟩:=HK.out.2.box
 go_upto_region 3 with (first
  | (go_at_call 34;(with_reducible refine (HD.out _ HK.out.1.bl).mono ?_);rintro e w1 ⟨rfl,hb1⟩;have HK1:=hid_of (⟨HK.out.1.below hb1,HK.out.2.below hb1⟩:_∧_);obtain ⟨c0,c1,c2,c3,c4,c5,c6,c7,c8,c9,c10⟩:=HK1.out.1.box;obtain ⟨d0,d1,d2,d3,d4,d5,d6,d7,d8,d9,d10⟩:=HK1.out.2.box)
  | (go_at_call 35;(with_reducible refine (HE.out _ HK1.out.1.bl).mono ?_);rintro e w2 ⟨rfl,hb2⟩;have HK2:=hid_of (⟨HK1.out.1.below hb2,HK1.out.2.below hb2⟩:_∧_)))
 obtain ⟨c0,c1,c2,c3,c4,c5,c6,c7,c8,c9,c10⟩:=HK2.out.1.box
 obtain ⟨d0,d1,d2,d3,d4,d5,d6,d7,d8,d9,d10⟩:=HK2.out.2.box
 have HB:=hid_of HK2.out.1.bl
 clear HK HK1 HK2 HD HE hb1 hb2
 go_cut [7] from 18 to 36 (fun z W=>z=.bool (sf x y)∧W=w2)
 case first =>
  clear HR HT
  have HSf:Hid (sf x y=(Re.sF x.sum y.sum && Re.sF x.mn y.mn && Re.sF x.mx y.mx)):=rfl
  unfold Re.sF at HSf
  generalize (Re.sg (Re.rk x.sum) (Re.rk y.sum) == 0)=p1 at *
  generalize (Re.sg (Re.rk x.mn) (Re.rk y.mn) == 0)=p2 at *
  generalize (Re.sg (Re.rk x.mx) (Re.rk y.mx) == 0)=p3 at *
  cases p1 <;> cases p2 <;> cases p3
  all_goals
   go_wp2_with (go_at_call 36;(first | (with_reducible refine (HF1.out _).mono ?_) | (with_reducible refine (HF2.out _).mono ?_) | (with_reducible refine (HF3.out _).mono ?_));rintro e w2 ⟨rfl,rfl⟩)
   go_meet
   exact ⟨by rw [HSf.out];rfl,rfl⟩
 case rest =>
 rename_i wc
 obtain ⟨rfl,hwc⟩:=hcut
 obtain rfl:w2=wc:=hwc.symm
 clear HF1 HF2 HF3
 rw [← HT.out] at HR
 have hn2:decide (x.n=y.n)=((x.n:Int) == (y.n:Int)):=by
  by_cases e:x.n=y.n
  ·rw [decide_eq_true e,e];simp
  ·rw [decide_eq_false e];symm;rw [beq_eq_false_iff_ne];omega
 have hn3:decide (x.n=y.n)=(x.n == y.n):=by by_cases e:x.n=y.n <;> simp [e]
 obtain ⟨h1,hh1⟩:∃ h1,(hiOf x.t == hiOf y.t)=h1:=⟨_,rfl⟩
 obtain ⟨h2,hh2⟩:∃ h2,(loOf x.t == loOf y.t)=h2:=⟨_,rfl⟩
 obtain ⟨h3,hh3⟩:∃ h3,decide (x.n=y.n)=h3:=⟨_,rfl⟩
 rw [hh1,hh2,hh3] at HR
 rw [hh3] at hn2 hn3
 have hn2':=hn2.symm
 have hn3':=hn3.symm
 clear HT hn2 hn3 hh3
 generalize decide (x.d=y.d)=db at *
 generalize decide (x.cs=y.cs)=eb at *
 generalize sf x y=sb at *
 cases db <;> cases eb <;> cases sb
 all_goals try (as_aux_lemma =>
  go_wp2_with fail
  go_ret
  exact ⟨retB HR.out.symm,HB.out⟩)
 cases h1 <;> cases h2 <;> cases h3
 all_goals as_aux_lemma =>
  go_wp2_with fail
  go_ret
  exact ⟨retB HR.out.symm,HB.out⟩
structure Sb (w:World) (a b:Sn) (ua ub:Value) (W:World):Prop where
 g1:W.heap[w.heap.size]? =some (.cells #[.int .i64 a.p,ua,.int .u64 (a.r:Int)] 25 (0,0))
 g2:W.heap[w.heap.size+1]? =some (.cells #[.int .i64 b.p,ub,.int .u64 (b.r:Int)] 25 (0,0))
 bl:Below w.heap.size w W
theorem Sb.below {w W W1:World} {a b:Sn} {ua ub:Value} (h:Sb w a b ua ub W) (hb:Below W.heap.size W W1):Sb w a b ua ub W1:=⟨hkN h.g1 hb,hkN h.g2 hb,bt h.bl hb⟩
theorem Sb.new (w:World) (a b:Sn) (ua ub:Value):Sb w a b ua ub ((w.alloc (.cells #[.int .i64 a.p,ua,.int .u64 (a.r:Int)] 25)).alloc (.cells #[.int .i64 b.p,ub,.int .u64 (b.r:Int)] 25)):=by
 have n2:=new_1 (w.alloc (.cells #[.int .i64 a.p,ua,.int .u64 (a.r:Int)] 25)) (.cells #[.int .i64 b.p,ub,.int .u64 (b.r:Int)] 25)
 rw [show (w.alloc (.cells #[.int .i64 a.p,ua,.int .u64 (a.r:Int)] 25)).heap.size=w.heap.size+1 by simp] at n2
 exact ⟨hkN (new_1 w _) (bel1 _ _),n2,bel2 _ _ _⟩
abbrev S6s (w:World) (a b:Sn) (ua ub:Value) (ba oa bb ob:Nat) (x y:Vl) (lv cv lw cw:Value) (W:World):Prop:=W.cell? ⟨w.heap.size,1,none⟩=some ua∧W.cell? ⟨w.heap.size+1,1,none⟩=some ub∧cC ba oa x lv cv W∧cC bb ob y lw cw W∧KR ba oa x lv cv W∧KR bb ob y lw cw W∧Sb w a b ua ub W
theorem s6s_of {w W:World} {a b:Sn} {ua ub:Value} {ba oa bb ob:Nat} {x y:Vl} {lv cv lw cw:Value} (h1:KR ba oa x lv cv W) (h2:KR bb ob y lw cw W) (h3:Sb w a b ua ub W):S6s w a b ua ub ba oa bb ob x y lv cv lw cw W:=⟨(three_cells h3.g1).2.1,(three_cells h3.g2).2.1,h1.c.cC,h2.c.cC,h1,h2,h3⟩
theorem keep6s {w W W1:World} {a b:Sn} {ua ub:Value} {ba oa bb ob:Nat} {x y:Vl} {lv cv lw cw:Value} (hb:Below W.heap.size W W1) (h:S6s w a b ua ub ba oa bb ob x y lv cv lw cw W):S6s w a b ua ub ba oa bb ob x y lv cv lw cw W1:=s6s_of (h.2.2.2.2.1.below hb) (h.2.2.2.2.2.1.below hb) (h.2.2.2.2.2.2.below hb)
theorem rsames_any (a b:Sn) (v u:Value) (ha:SnW a) (hb:SnW b) (w:World) (hv:SnAt w a v) (hu:SnAt w b u) :
  Calls Tryz.prog 9 #[v,u] w fun e w'=>e=.returned (.bool (smS a b))∧Below w.heap.size w w':=by
 obtain ⟨va,rfl,sa⟩:=hv
 obtain ⟨vb,rfl,sb⟩:=hu
 obtain ⟨ao,b1,o1,cap,rfl,hao,hcap,hcap2,hr⟩:=sa.open
 obtain ⟨bo,b2,o2,cap',rfl,hbo,-,-,hr'⟩:=sb.open
 have HN:=hid_of (Sb.new w a b (.slice ao a.vs.length cap) (.slice bo b.vs.length cap'))
 obtain ⟨R,hR⟩:∃ R,R=smS a b:=⟨_,rfl⟩
 rw [← hR]
 have HR:=hid_of hR
 have HA:=hid_of hr
 have HB:=hid_of hr'
 have HW:=hid_of (⟨ha.vs,hb.vs⟩:_∧_)
 clear sa sb hr hr' ha hb hR
 go_enter Tryz.func9,Tryz.ntmps9
 go_upto_region 1 with fail
 generalize (w.alloc (.cells #[.int .i64 a.p,.slice ao a.vs.length cap,.int .u64 (a.r:Int)] 25)).alloc (.cells #[.int .i64 b.p,.slice bo b.vs.length cap',.int .u64 (b.r:Int)] 25)=w0 at HN ⊢
 obtain ⟨c0,c1,c2,_,_,_⟩:=three_cells HN.out.g1
 obtain ⟨d0,d1,d2,_,_,_⟩:=three_cells HN.out.g2
 by_cases hp:a.p=b.p
 ·have hp':(a.p != b.p)=false:=by simpa using hp
  by_cases hrr:a.r=b.r
  ·have hr1:((a.r:Int) != (b.r:Int))=false:=by rw [bne_eq_false_iff_eq];omega
   have hr2:(a.r != b.r)=false:=by rw [bne_eq_false_iff_eq];omega
   by_cases hlen:a.vs.length=b.vs.length
   ·have hl1:((a.vs.length:Int) != (b.vs.length:Int))=false:=by rw [bne_eq_false_iff_eq];omega
    have hl2:(a.vs.length != b.vs.length)=false:=by rw [bne_eq_false_iff_eq];omega
    have HR0:Hid (R=smQ (a.vs.drop 0) (b.vs.drop 0)):=by
     unfold Hid
     rw [HR.out]
     unfold smS
     rw [decide_eq_true hp,decide_eq_true hrr]
     rfl
    have HL:=hid_of hlen
    clear HR hp hrr hlen
    go_upto_region 4 with fail
    clear c0 c1 c2 d0 d1 d2
    go_loopw [5] (fun x W=>∃ i:Nat,i≤a.vs.length∧x=.int .i64 (i:Int)∧Hid (R=smQ (a.vs.drop i) (b.vs.drop i))∧Hid (Sb w a b (.slice ao a.vs.length cap) (.slice bo b.vs.length cap') W)) (fun x _=>a.vs.length - (intOf x).toNat)
    case atStart=>exact ⟨0,by omega,rfl,HR0,HN⟩
    case round =>
     clear HR0 HN
     obtain ⟨i,hi,rfl,HR,HS⟩:=hrel
     obtain ⟨c0,c1,c2,_,_,_⟩:=three_cells HS.out.g1
     obtain ⟨d0,d1,d2,_,_,_⟩:=three_cells HS.out.g2
     by_cases hlt:i < a.vs.length
     ·have hlt2:i < b.vs.length:=by have:=HL.out;omega
      have hlt':(i:Int) < (a.vs.length:Int):=by omega
      have hlt2':(i:Int) < (b.vs.length:Int):=by omega
      obtain rfl:=hao (by intro e;rw [e] at hlt;simp at hlt)
      obtain rfl:=hbo (by intro e;rw [e] at hlt2;simp at hlt2)
      obtain ⟨lv,cv,g1,g2,g3⟩:=HA.out.below HS.out.bl i hlt
      obtain ⟨lw,cw,k1,k2,k3⟩:=HB.out.below HS.out.bl i hlt2
      have hix:=index_val b1 o1 a.vs.length cap i (i:Int) rfl hlt
      have hiy:=index_val b2 o2 b.vs.length cap' i (i:Int) rfl hlt2
      have HSV:Hid (∀ W,S6s w a b (.slice (some ⟨b1,o1,none⟩) a.vs.length cap) (.slice (some ⟨b2,o2,none⟩) b.vs.length cap') b1 (o1+i*11) b2 (o2+i*11) a.vs[i] b.vs[i] lv cv lw cw W→Calls Tryz.prog 17 #[vx a.vs[i] lv cv,vx b.vs[i] lw cw] W fun e w'=>e=.returned (.bool (smV a.vs[i] b.vs[i]))∧Below W.heap.size W w'):=fun W k=>rsamev_any a.vs[i] b.vs[i] _ _ (HW.out.1 _ (List.getElem_mem hlt)) (HW.out.2 _ (List.getElem_mem hlt2)) W k.2.2.2.2.1.at k.2.2.2.2.2.1.at
      have hS0:=s6s_of (⟨g1,g2,g3⟩:KR b1 (o1+i*11) a.vs[i] lv cv wr) (⟨k1,k2,k3⟩:KR b2 (o2+i*11) b.vs[i] lw cw wr) HS.out
      have hS:=HR.out
      rw [smQ_drop a.vs b.vs i hlt hlt2] at hS
      have HS1:=hid_of hS
      clear g1 g2 g3 k1 k2 k3 hS HR HS
      generalize smV a.vs[i] b.vs[i]=q at *
      go_upto_region 6 with fail
      clear c0 c1 c2 d0 d1 d2
      go_cut [6] from 35 to 45 (fun x W=>x=.bool q∧Hid (Sb w a b (.slice (some ⟨b1,o1,none⟩) a.vs.length cap) (.slice (some ⟨b2,o2,none⟩) b.vs.length cap') W))
      case first =>
       clear HS1
       as_aux_lemma =>
        go_region_held3 (fun W=>S6s w a b (.slice (some ⟨b1,o1,none⟩) a.vs.length cap) (.slice (some ⟨b2,o2,none⟩) b.vs.length cap') b1 (o1+i*11) b2 (o2+i*11) a.vs[i] b.vs[i] lv cv lw cw W)
         (first | assumption | exact keep6s (by assumption) (by assumption) | exact keep6s (drew_bel _) hS0)
         (first
          | (go_at_call 17;with_reducible refine (HSV.out _ (by first | assumption | exact keep6s (by assumption) (by assumption) | exact keep6s (drew_bel _) hS0)).mono ?_;rintro e w3 ⟨rfl,hb3⟩))
        rename_i hS3
        go_wp2_with fail
        go_meet
        exact ⟨rfl,hS3.2.2.2.2.2.2⟩
      case rest =>
      obtain ⟨rfl,HSc⟩:=hcut
      clear hS0 HSV
      cases q
      ·rw [Bool.false_and] at HS1
       as_aux_lemma =>
        go_wp2_with fail
        go_ret
        exact ⟨retB HS1.out.symm,HSc.out.bl⟩
      ·rw [Bool.true_and] at HS1
       as_aux_lemma =>
        go_wp2_with fail
        exact ⟨⟨i+1,by omega,by go_num,HS1,HSc⟩,by simp [intOf];omega⟩
     ·have hlt':¬ (i:Int) < (a.vs.length:Int):=by omega
      have hS:=HR.out
      rw [List.drop_eq_nil_of_le (by omega),List.drop_eq_nil_of_le (by have:=HL.out;omega)] at hS
      have HS1:Hid (R=true):=hS
      clear HR hS
      as_aux_lemma =>
       go_wp2_with fail
       go_ret
       exact ⟨retB HS1.out.symm,HS.out.bl⟩
   ·have hl1:((a.vs.length:Int) != (b.vs.length:Int))=true:=by rw [bne_iff_ne];omega
    have hl2:(a.vs.length != b.vs.length)=true:=by rw [bne_iff_ne];omega
    have HR0:Hid (R=false):=by
     unfold Hid
     rw [HR.out]
     unfold smS
     rw [smQ_len hlen,Bool.and_false,Bool.and_false]
    clear HR hp hrr hlen
    as_aux_lemma =>
     go_wp2_with fail
     go_ret
     exact ⟨retB HR0.out.symm,HN.out.bl⟩
  ·have hr1:((a.r:Int) != (b.r:Int))=true:=by rw [bne_iff_ne];omega
   have hr2:(a.r != b.r)=true:=by rw [bne_iff_ne];omega
   have HR0:Hid (R=false):=by
    unfold Hid
    rw [HR.out]
    unfold smS
    rw [decide_eq_false hrr,Bool.false_and,Bool.and_false]
   clear HR hp hrr
   as_aux_lemma =>
    go_wp2_with fail
    go_ret
    exact ⟨retB HR0.out.symm,HN.out.bl⟩
 ·have hp':(a.p != b.p)=true:=by simpa using hp
  have HR0:Hid (R=false):=by
   unfold Hid
   rw [HR.out]
   unfold smS
   rw [decide_eq_false hp,Bool.false_and]
  clear HR hp
  as_aux_lemma =>
   go_wp2_with fail
   go_ret
   exact ⟨retB HR0.out.symm,HN.out.bl⟩
theorem ceq_any (ao:Option Addr) (b o cap:Nat) (A:List Cn) (hao:A≠[]→ao=some ⟨b,o,none⟩) (ao':Option Addr) (b' o' cap':Nat) (C:List Cn) (hao':C≠[]→ao'=some ⟨b',o',none⟩) (hl:A.length≤9223372036854775807) (w:World) (hA:RowC w b o A) (hC:RowC w b' o' C) :
  Calls Tryz.prog 32 #[.slice ao A.length cap,.slice ao' C.length cap'] w fun e w'=>e=.returned (.bool (decide (A=C)))∧Below w.heap.size w w':=by
 by_cases hlen:A.length=C.length
 ·have ht:((A.length:Int) != (C.length:Int))=false:=by rw [bne_eq_false_iff_eq];omega
  have HL:Hid _:=hlen
  have HA:Hid _:=hA
  have HC:Hid _:=hC
  clear hlen hA hC
  go_enter Tryz.func32,Tryz.ntmps32
  go_wp2_with fail
  go_loopw [13] (fun c wr=>∃ i n:Nat,i≤A.length∧c=.int .i64 (i:Int)∧wr=w.drewN n∧Hid (A.take i=C.take i)) (fun c _=>A.length - (intOf c).toNat)
  case atStart=>exact ⟨0,0,by omega,rfl,rfl,by simp [Hid]⟩
  case round =>
   obtain ⟨i,n,hi,rfl,rfl,hE⟩:=hrel
   by_cases hlt:i < A.length
   ·have hlt2:i < C.length:=by have:=HL.out;omega
    obtain rfl:=hao (by intro e;rw [e] at hlt;simp at hlt)
    obtain rfl:=hao' (by intro e;rw [e] at hlt2;simp at hlt2)
    have hlt':(i:Int) < (A.length:Int):=by omega
    have hlt2':(i:Int) < (C.length:Int):=by omega
    obtain ⟨q1,q2⟩:=HA.out i hlt
    obtain ⟨q3,q4⟩:=HC.out i hlt2
    have HT1:Hid (A.take (i+1)=A.take i++[A[i]]):=List.take_succ_eq_append_getElem hlt
    have HT2:Hid (C.take (i+1)=C.take i++[C[i]]):=List.take_succ_eq_append_getElem hlt2
    have HN:Hid (A[i]≠C[i]→A≠C):=fun h e=>h (by subst e;rfl)
    obtain ⟨x,y,hxy⟩:∃ x y,A[i]=(x,y):=⟨_,_,rfl⟩
    obtain ⟨u,v,huv⟩:∃ u v,C[i]=(u,v):=⟨_,_,rfl⟩
    rw [hxy] at q1 q2 HT1 HN
    rw [huv] at q3 q4 HT2 HN
    clear hxy huv
    by_cases he:x=u∧y=v
    ·obtain ⟨rfl,rfl⟩:=he
     clear HN
     go_wp2_with fail
     go_region
     go_wp2_with fail
     exact ⟨⟨i+1,n+1,by omega,by go_num,rfl,by unfold Hid;rw [HT1.out,HT2.out,hE.out]⟩,by simp [intOf];omega⟩
    ·have hne:decide (A=C)=false:=decide_eq_false (HN.out (fun e=>he ⟨(Prod.mk.inj e).1,(Prod.mk.inj e).2⟩))
     have HNE:Hid _:=hne
     have hor:(x == u)=false∨(x=u∧((y:Int) == (v:Int))=false):=by
      by_cases h1:x=u
      ·right
       exact ⟨h1,by rw [beq_eq_false_iff_ne];intro h2;exact he ⟨h1,by omega⟩⟩
      ·left
       simpa using h1
     clear he hne HN HT1 HT2 hE
     rcases hor with h1 | ⟨rfl,h1⟩
     ·go_wp2_with fail
      go_region
      go_wp2_with fail
      go_ret
      exact ⟨retB HNE.out.symm,bel_drewNB (Below.refl _ _) (n+1)⟩
     ·have h2:(y == v)=false:=by rw [beq_eq_false_iff_ne] at h1 ⊢;intro e;exact h1 (by rw [e])
      go_wp2_with fail
      go_region
      go_wp2_with fail
      go_ret
      exact ⟨retB HNE.out.symm,bel_drewNB (Below.refl _ _) (n+1)⟩
   ·obtain rfl:i=A.length:=by omega
    have hlt':¬ (A.length:Int) < (A.length:Int):=by omega
    have he:decide (A=C)=true:=by
     have:=hE.out
     rw [List.take_length,HL.out,List.take_length] at this
     exact decide_eq_true this
    have HE:Hid _:=he
    clear he
    go_wp2_with fail
    go_ret
    exact ⟨retB HE.out.symm,bel_drewNB (Below.refl _ _) n⟩
 ·have ht:((A.length:Int) != (C.length:Int))=true:=by rw [bne_iff_ne];omega
  have he:decide (A=C)=false:=decide_eq_false (fun e=>hlen (by rw [e]))
  rw [he]
  clear he hlen hA hC
  go_enter Tryz.func32,Tryz.ntmps32
  go_wp2_with fail
  go_ret
  exact ⟨rfl,Below.refl _ _⟩
theorem csamev_any (x y:Vl) (v u:Value) (hx:VW x) (hy:VW y) (w:World) (hv:VAt w x v) (hu:VAt w y u) :
  Calls Tryz.prog 16 #[v,u] w fun e w'=>e=.returned (.bool (smV x y))∧Below w.heap.size w w':=by
 obtain ⟨lv,cv,rfl,hl,hc⟩:=hv
 obtain ⟨lw,cw,rfl,hl',hc'⟩:=hu
 obtain ⟨ca,b,o,cc,rfl,hao,hr⟩:=hc.sc
 obtain ⟨ca',b',o',cc',rfl,hao',hr'⟩:=hc'.sc
 have HD:Hid (∀ W,Below w.heap.size w W→Calls Tryz.prog 31 #[.agg #[.int .i64 x.d.kind,.string ⟨x.d.name.toArray⟩,.string ⟨x.d.help.toArray⟩,lv],.agg #[.int .i64 y.d.kind,.string ⟨y.d.name.toArray⟩,.string ⟨y.d.help.toArray⟩,lw]] W fun e w'=>e=.returned (.bool (decide (x.d=y.d)))∧Below W.heap.size W w'):=fun W h=>La.csame_any x.d y.d _ _ W (hl.below h).dsc.at (hl'.below h).dsc.at
 have HE:Hid (∀ W,Below w.heap.size w W→Calls Tryz.prog 32 #[.slice ca x.cs.length cc,.slice ca' y.cs.length cc'] W fun e w'=>e=.returned (.bool (decide (x.cs=y.cs)))∧Below W.heap.size W w'):=fun W h=>ceq_any ca b o cc x.cs hao ca' b' o' cc' y.cs hao' (by have:=hx.cl;omega) W (hr.below h (fun k=>hr.lt k)) (hr'.below h (fun k=>hr'.lt k))
 have HF:Hid (∀ W,Calls Tryz.prog 33 #[vx x lv (.slice ca x.cs.length cc),vx y lw (.slice ca' y.cs.length cc')] W fun e w'=>e=.returned (.bool (sf x y))∧Below W.heap.size W w'):=fun W=>sfl_any x.sum x.mn x.mx y.sum y.mn y.mx hx.sum hx.mn hx.mx hy.sum hy.mn hy.mx _ _ _ _ _ _ _ _ _ _ _ _ _ _ _ _ W
 have HK:=hid_of (fun T=>(KV.new2 hl hc hl' hc' T))
 have HT:=hid_of (words_eq hx.t hy.t)
 clear hl hc hl' hc' hr hr' hao hao' hx hy
 unfold smV
 generalize sf x y=sb at *
 generalize decide (x.d=y.d)=db at *
 generalize decide (x.cs=y.cs)=eb at *
 rw [← HT.out]
 clear HT
 cases db
 ·rw [Bool.false_and]
  go_enter Tryz.func16,Tryz.ntmps16
  go_wp2_with (go_at_call 31;with_reducible refine (HD.out _ (bel2 w _ _)).mono ?_;rintro e w1 ⟨rfl,hb1⟩)
  go_ret
  exact ⟨rfl,bt (bel2 w _ _) hb1⟩
 ·rw [Bool.true_and]
  obtain ⟨h1,hh1⟩:∃ h1,(hiOf x.t == hiOf y.t)=h1:=⟨_,rfl⟩
  obtain ⟨h2,hh2⟩:∃ h2,(loOf x.t == loOf y.t)=h2:=⟨_,rfl⟩
  obtain ⟨h3,hh3⟩:∃ h3,((x.n:Int) == (y.n:Int))=h3:=⟨_,rfl⟩
  have hn:decide (x.n=y.n)=h3:=by
   rw [← hh3]
   by_cases e:x.n=y.n
   ·rw [decide_eq_true e,e];simp
   ·rw [decide_eq_false e];symm;rw [beq_eq_false_iff_ne];omega
  have hh3':(x.n == y.n)=h3:=by
   rw [← hn]
   by_cases e:x.n=y.n
   ·rw [decide_eq_true e,e];simp
   ·rw [decide_eq_false e];simpa using e
  rw [hh1,hh2,hn]
  clear hn
  cases h1 <;> cases h2 <;> cases eb <;> cases h3
  all_goals
   go_enter Tryz.func16,Tryz.ntmps16
   go_wp2_with (first
    | (go_at_call 31;with_reducible refine (HD.out _ (bel2 w _ _)).mono ?_;rintro e w1 ⟨rfl,hb1⟩;have HB1:=hid_of (bt (bel2 w _ _) hb1);obtain ⟨c0,c1,c2,c3,c4,c5,c6,c7,c8,c9,c10⟩:=((HK.out 45).1.below hb1).box;obtain ⟨d0,d1,d2,d3,d4,d5,d6,d7,d8,d9,d10⟩:=((HK.out 45).2.below hb1).box)
    | (go_at_call 32;with_reducible refine (HE.out _ HB1.out).mono ?_;rintro e w2 ⟨rfl,hb2⟩;have HB1:=hid_of (bt HB1.out hb2);obtain ⟨c0,c1,c2,c3,c4,c5,c6,c7,c8,c9,c10⟩:=(((HK.out 45).1.below hb1).below hb2).box;obtain ⟨d0,d1,d2,d3,d4,d5,d6,d7,d8,d9,d10⟩:=(((HK.out 45).2.below hb1).below hb2).box)
    | (go_at_call 33;with_reducible refine (HF.out _).mono ?_;rintro e w3 ⟨rfl,hb3⟩;have HB1:=hid_of (bt HB1.out hb3)))
   go_ret
   exact ⟨rfl,HB1.out⟩
theorem eqf_any (A B:List Vl) (va vb:Value) (w:World) (hA:SV w va A) (hB:SV w vb B) (wA:∀ x ∈ A,VW x) (wB:∀ x ∈ B,VW x) :
  Calls Tryz.prog 15 #[va,vb,.func (.func 16) #[] #[]] w fun e w'=>e=.returned (.bool (smQ A B))∧Below w.heap.size w w':=by
 obtain ⟨ao,b,o,cap,rfl,hao,hcap,hcap2,hr⟩:=hA.open
 obtain ⟨bo,c,p,cap',rfl,hbo,hcap',hcap2',hr'⟩:=hB.open
 by_cases hlen:A.length=B.length
 ·have ht:((A.length:Int) != (B.length:Int))=false:=by rw [bne_eq_false_iff_eq];omega
  obtain ⟨R,hR⟩:∃ R,R=smQ A B:=⟨_,rfl⟩
  rw [← hR]
  have HR0:Hid (R=smQ (A.drop 0) (B.drop 0)):=hR
  have HL:=hid_of hlen
  have HA:=hid_of (⟨hr,hr'⟩:_∧_)
  have HW:=hid_of (⟨wA,wB⟩:_∧_)
  clear hR hlen hr hr' wA wB hA hB
  have sF:∀ (W:World) (a:Addr) (x:Nat) (m:Mode),(store a (.float .f64 x) m).run Tryz.prog W=stored Tryz.prog W a (.float .f64 x) m:=fun W a x m=>run_store Tryz.prog W a _ m rfl
  go_enter Tryz.func15,Tryz.ntmps15
  go_upto_region 4 with fail
  go_loopw [17] (fun x W=>∃ i:Nat,i≤A.length∧x=.int .i64 (i:Int)∧Hid (R=smQ (A.drop i) (B.drop i))∧Hid (Below w.heap.size w W)) (fun x _=>A.length - (intOf x).toNat)
  case atStart=>exact ⟨0,by omega,rfl,HR0,Below.refl _ _⟩
  case round =>
   clear HR0
   obtain ⟨i,hi,rfl,HR,HB⟩:=hrel
   by_cases hlt:i < A.length
   ·have hlt2:i < B.length:=by have:=HL.out;omega
    have hlt':(i:Int) < (A.length:Int):=by omega
    have hlt2':(i:Int) < (B.length:Int):=by omega
    obtain rfl:=hao (by intro e;rw [e] at hlt;simp at hlt)
    obtain rfl:=hbo (by intro e;rw [e] at hlt2;simp at hlt2)
    obtain ⟨lv,cv,g1,g2,g3⟩:=HA.out.1.below HB.out i hlt
    obtain ⟨lw,cw,k1,k2,k3⟩:=HA.out.2.below HB.out i hlt2
    obtain ⟨lva,lvc,rfl⟩:=g2.form
    obtain ⟨cva,cvc,rfl⟩:=g3.form
    obtain ⟨lwa,lwc,rfl⟩:=k2.form
    obtain ⟨cwa,cwc,rfl⟩:=k3.form
    have hix:=index_val b o A.length cap i (i:Int) rfl hlt
    have hiy:=index_val c p B.length cap' i (i:Int) rfl hlt2
    have HS:Hid (∀ W,Below wr.heap.size wr W→Calls Tryz.prog 16 #[vx A[i] (.slice lva A[i].d.labels.length lvc) (.slice cva A[i].cs.length cvc),vx B[i] (.slice lwa B[i].d.labels.length lwc) (.slice cwa B[i].cs.length cwc)] W fun e w'=>e=.returned (.bool (smV A[i] B[i]))∧Below W.heap.size W w'):=fun W h=>csamev_any A[i] B[i] _ _ (HW.out.1 _ (List.getElem_mem hlt)) (HW.out.2 _ (List.getElem_mem hlt2)) W ⟨_,_,rfl,g2.below h,g3.below h⟩ ⟨_,_,rfl,k2.below h,k3.below h⟩
    have hS:=HR.out
    rw [smQ_drop A B i hlt hlt2] at hS
    obtain ⟨r0,r1,r2,r3,r4,r5,r6,r7,r8,r9,r10⟩:=g1.cC
    have hk1:=k1.below (bel1 wr (.cells (vc A[i] (.slice lva A[i].d.labels.length lvc) (.slice cva A[i].cs.length cvc)) 45))
    obtain ⟨s0,s1,s2,s3,s4,s5,s6,s7,s8,s9,s10⟩:=k1.cC
    have hbw:b < wr.heap.size:=lt_of_cell g1.c0
    have hcw:c < wr.heap.size:=lt_of_cell k1.c0
    clear g1 g2 g3 k1 k2 k3 HR hk1
    generalize smV A[i] B[i]=sb at *
    cases sb
    ·rw [Bool.false_and] at hS
     have HSS:=hid_of hS
     clear hS
     go_wp2_with (go_at_call 16;with_reducible refine (HS.out _ (bel2 wr _ _)).mono ?_;rintro e w1 ⟨rfl,hb1⟩)
     go_ret
     exact ⟨by rw [HSS.out];rfl,bt HB.out (bt (bel2 wr _ _) hb1)⟩
    ·rw [Bool.true_and] at hS
     have HSS:=hid_of hS
     clear hS
     go_wp2_with (go_at_call 16;with_reducible refine (HS.out _ (bel2 wr _ _)).mono ?_;rintro e w1 ⟨rfl,hb1⟩)
     exact ⟨⟨i+1,by omega,by go_num,HSS,bt HB.out (bt (bel2 wr _ _) hb1)⟩,by simp [intOf];omega⟩
   ·have hlt':¬ (i:Int) < (A.length:Int):=by omega
    have hS:=HR.out
    rw [List.drop_eq_nil_of_le (by omega),List.drop_eq_nil_of_le (by have:=HL.out;omega)] at hS
    have HSS:Hid (R=true):=hS
    clear HR hS
    go_wp2_with fail
    go_ret
    exact ⟨by rw [HSS.out];rfl,HB.out⟩
 ·have ht:((A.length:Int) != (B.length:Int))=true:=by rw [bne_iff_ne];omega
  rw [smQ_len hlen]
  clear hlen hr hr' wA wB hA hB
  go_enter Tryz.func15,Tryz.ntmps15
  go_wp2_with fail
  go_ret
  exact ⟨rfl,Below.refl _ _⟩
theorem csames_any (a b:Sn) (v u:Value) (ha:SnW a) (hb:SnW b) (w:World) (hv:SnAt w a v) (hu:SnAt w b u) :
  Calls Tryz.prog 8 #[v,u] w fun e w'=>e=.returned (.bool (smS a b))∧Below w.heap.size w w':=by
 obtain ⟨va,rfl,sa⟩:=hv
 obtain ⟨vb,rfl,sb⟩:=hu
 have HE:Hid (∀ W,Below w.heap.size w W→Calls Tryz.prog 15 #[va,vb,.func (.func 16) #[] #[]] W fun e w'=>e=.returned (.bool (smQ a.vs b.vs))∧Below W.heap.size W w'):=fun W h=>eqf_any a.vs b.vs va vb W (sa.below h) (sb.below h) ha.vs hb.vs
 obtain ⟨_,_,_,_,rfl,-⟩:=sa.open
 obtain ⟨_,_,_,_,rfl,-⟩:=sb.open
 unfold smS
 have e1:decide (a.p=b.p)=(a.p == b.p):=by by_cases e:a.p=b.p <;> simp [e]
 have e2:decide (a.r=b.r)=((a.r:Int) == (b.r:Int)):=by
  by_cases e:a.r=b.r
  ·rw [decide_eq_true e,e];simp
  ·rw [decide_eq_false e];symm;rw [beq_eq_false_iff_ne];omega
 have e3:decide (a.r=b.r)=(a.r == b.r):=by by_cases e:a.r=b.r <;> simp [e]
 obtain ⟨h1,hh1⟩:∃ h1,(a.p == b.p)=h1:=⟨_,rfl⟩
 obtain ⟨h2,hh2⟩:∃ h2,decide (a.r=b.r)=h2:=⟨_,rfl⟩
 rw [hh1] at e1
 rw [hh2] at e2 e3
 have hh3:=e2.symm
 have hh4:=e3.symm
 rw [e1,hh2]
 clear e1 e2 e3 hh2 sa sb ha hb
 generalize smQ a.vs b.vs=eb at *
 cases h1 <;> cases h2
 all_goals
  go_enter Tryz.func8,Tryz.ntmps8
  go_wp2_with (go_at_call 15;with_reducible refine (HE.out _ (bel2 w _ _)).mono ?_;rintro e w1 ⟨rfl,hb1⟩)
  go_ret
  first | exact ⟨rfl,bel2 w _ _⟩ | exact ⟨rfl,bt (bel2 w _ _) hb1⟩
end Go.Proofs.YtfkbjdgbpenflaaGreatDoor
