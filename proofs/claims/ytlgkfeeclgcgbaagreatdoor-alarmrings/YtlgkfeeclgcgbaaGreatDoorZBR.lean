/- ALARM: the law's rings, walked. Own work of the verifier. -/
import Derived.Test.YtlgkfeeclgcgbaaGreatDoorZBQ
import Derived.Test.YtlgkfeeclgcgbaaGreatDoorZAN
import Derived.Test.YtlgkfeeclgcgbaaGreatDoorZBN
import Derived.Test.YtlgkfeeclgcgbaaGreatDoorZBP
import Derived.Test.YtlgkfeeclgcgbaaGreatDoorZBM
set_option maxRecDepth 100000
set_option maxHeartbeats 4000000
namespace Go.Proofs.YtlgkfeeclgcgbaaGreatDoor.Al
open Go.RowKit Me
def HeldTo (L:List Mo) (long:Int) (j t:Nat) (bh:Bool):Prop:=(bh=true→heldP L long j)∧(bh=false→(∀ k,t≤k→k≤j→mHo L k=true)∧∀ i,t≤i→i≤j→¬ long≤mAt L j - mAt L i)
theorem held_start (L:List Mo) (long:Int) (j:Nat):HeldTo L long j (j+1) false:=by
 unfold HeldTo
 exact ⟨fun h=>(by cases h),fun _=>⟨fun k a b=>(by omega),fun k a b=>(by omega)⟩⟩
theorem held_exit {L:List Mo} {long:Int} {j t:Nat} {bh:Bool} (h:HeldTo L long j t bh) (he:∀ s,t=s+1→s≤j→bh=false→mHo L s=false) (ht:t≤j+1):bh=true ↔ heldP L long j:=by
 refine ⟨h.1,fun ⟨i,a,b,c⟩=>?_⟩
 cases bh with
 | true=>rfl
 | false =>
  exfalso
  obtain ⟨h1,h2⟩:=h.2 rfl
  rcases Nat.lt_or_ge i t with g | g
  ·have:=he (t - 1) (by omega) (by omega) rfl
   rw [b (t - 1) (by omega) (by omega)] at this
   cases this
  ·exact h2 i g a c
theorem held_go {L:List Mo} {long:Int} {j s:Nat} (h:HeldTo L long j (s+1) false) (hs:s≤j) (ho:mHo L s=true):HeldTo L long j s (decide (long≤mAt L j - mAt L s)):=by
 obtain ⟨h1,h2⟩:=h.2 rfl
 have h3:∀ k,s≤k→k≤j→mHo L k=true:=fun k a b=>by
  rcases Nat.lt_or_ge s k with g | g
  ·exact h1 k g b
  ·obtain rfl:k=s:=by omega
   exact ho
 refine ⟨fun hd=>⟨s,hs,h3,of_decide_eq_true hd⟩,fun hd=>⟨h3,fun i a b=>?_⟩⟩
 rcases Nat.lt_or_ge s i with g | g
 ·exact h2 i g b
 ·obtain rfl:i=s:=by omega
  exact of_decide_eq_false hd
def endE (L:List Mo) (keep:Int) (j x:Nat):Prop:=∃ a b,j < a∧a < x∧a≤b∧b < L.length∧(∀ k,a≤k→k≤b→mHo L k=false)∧keep≤mAt L b - mAt L a
def EndTo (L:List Mo) (keep:Int) (j x:Nat) (bc:Bool):Prop:=bc=true ↔ endE L keep j x
def EndIn (L:List Mo) (keep:Int) (j x y:Nat) (bc:Bool):Prop:=(∀ k,x≤k→k < y→mHo L k=false)∧(bc=true ↔ endE L keep j x∨∃ b,x≤b∧b < y∧keep≤mAt L b - mAt L x)
theorem end_start (L:List Mo) (keep:Int) (j:Nat):EndTo L keep j (j+1) false:=by
 unfold EndTo
 exact ⟨fun h=>(by cases h),fun ⟨a,b,h1,h2,_⟩=>(by omega)⟩
theorem end_all {L:List Mo} {keep:Int} {j:Nat} {bc:Bool} (h:EndTo L keep j L.length bc):bc=true ↔ endedP L keep j :=
 h.trans ⟨fun ⟨a,b,h1,_,h3⟩=>⟨a,b,h1,h3⟩,fun ⟨a,b,h1,h2,h3,h4⟩=>⟨a,b,h1,by omega,h2,h3,h4⟩⟩
theorem in_start {L:List Mo} {keep:Int} {j x:Nat} {bc:Bool} (h:EndTo L keep j x bc):EndIn L keep j x x bc :=
 ⟨fun k a b=>by omega,h.trans ⟨Or.inl,fun h=>by
  rcases h with h | ⟨b,h1,h2,_⟩
  ·exact h
  ·omega⟩⟩
theorem in_go {L:List Mo} {keep:Int} {j x y:Nat} {bc:Bool} (h:EndIn L keep j x y bc) (hxy:x≤y) (ho:mHo L y=false):EndIn L keep j x (y+1) (bc || decide (keep≤mAt L y - mAt L x)):=by
 refine ⟨fun k a b=>?_,?_⟩
 ·rcases Nat.lt_or_ge k y with g | g
  ·exact h.1 k a g
  ·obtain rfl:k=y:=by omega
   exact ho
 ·rw [Bool.or_eq_true,h.2,decide_eq_true_iff]
  constructor
  ·rintro ((h | ⟨b,h1,h2,h3⟩) | h)
   ·exact Or.inl h
   ·exact Or.inr ⟨b,h1,by omega,h3⟩
   ·exact Or.inr ⟨y,hxy,by omega,h⟩
  ·rintro (h | ⟨b,h1,h2,h3⟩)
   ·exact Or.inl (Or.inl h)
   ·rcases Nat.lt_or_ge b y with g | g
    ·exact Or.inl (Or.inr ⟨b,h1,g,h3⟩)
    ·obtain rfl:b=y:=by omega
     exact Or.inr h3
theorem in_exit {L:List Mo} {keep:Int} {j x y:Nat} {bc:Bool} (h:EndIn L keep j x y bc) (hj:j < x) (hxy:x≤y) (hy:y≤L.length) (ho:y < L.length→mHo L y=true):EndTo L keep j (x+1) bc:=by
 refine h.2.trans ⟨?_,?_⟩
 ·rintro (⟨a,b,h1,h2,h3⟩ | ⟨b,h1,h2,h3⟩)
  ·exact ⟨a,b,h1,by omega,h3⟩
  ·exact ⟨x,b,hj,by omega,h1,by omega,fun k p q=>h.1 k p (by omega),h3⟩
 ·rintro ⟨a,b,h1,h2,h3,h4,h5,h6⟩
  rcases Nat.lt_or_ge a x with g | g
  ·exact Or.inl ⟨a,b,h1,g,h3,h4,h5,h6⟩
  ·obtain rfl:a=x:=by omega
   rcases Nat.lt_or_ge b y with q | q
   ·exact Or.inr ⟨b,h3,q,h6⟩
   ·have:=ho (by omega)
    rw [h5 y hxy q] at this
    cases this
def NoneTo (L:List Mo) (long keep:Int) (j:Nat):Prop:=∀ i,i < j→¬ (heldP L long i∧¬ endedP L keep i)
theorem none_next {L:List Mo} {long keep:Int} {j:Nat} (h:NoneTo L long keep j) (hj:¬ (heldP L long j∧¬ endedP L keep j)):NoneTo L long keep (j+1):=fun i hi=>by
 rcases Nat.lt_or_ge i j with g | g
 ·exact h i g
 ·obtain rfl:i=j:=by omega
  exact hj
theorem none_all {L:List Mo} {long keep:Int} (h:NoneTo L long keep L.length):¬ ringP L long keep:=fun ⟨j,h1,h2,h3⟩=>h j h1 ⟨h2,h3⟩
def Is (b:Bool) (p:Prop):Prop:=b=true ↔ p
theorem apart_any (a b:Int) (h:IntKind.u64.wrap (IntKind.u64.wrap b - IntKind.u64.wrap a)=b - a) (w:World):Calls Tryz.prog 15 #[.int .i64 a,.int .i64 b] w fun e w'=>e=.returned (.int .u64 (b - a))∧w'=w:=by
 go_enter Tryz.func15,Tryz.ntmps15
 go_wp2_with fail
 go_ret
 exact ⟨rfl,rfl⟩
def CellsM (g:Nat) (L:List Mo) (w:World):Prop:=∀ i,i < L.length→w.cell? ⟨g,i*2,none⟩=some (.int .i64 (mAt L i))∧w.cell? ⟨g,i*2+1,none⟩=some (.bool (mHo L i))
structure KM (g:Nat) (L:List Mo) (w wr:World):Prop where
 c:CellsM g L wr
 q:∃ q,wr=w.drewN q
theorem KM.drewN {g:Nat} {L:List Mo} {w wr:World} (h:KM g L w wr) (n:Nat):KM g L w (wr.drewN n):=⟨h.c,let ⟨q,e⟩:=h.q;⟨q+n,by rw [e];exact World.drewN_drewN w q n⟩⟩
structure OkM (L:List Mo):Prop where
 rise:RiseM L
 far:∀ i,i < L.length→-4611686018427387904≤mAt L i∧mAt L i≤4611686018427387904
 len:L.length < 4611686018427387904
theorem OkM.apart {L:List Mo} (h:OkM L) {a b:Nat} (hab:a≤b) (hb:b < L.length):IntKind.u64.wrap (IntKind.u64.wrap (mAt L b) - IntKind.u64.wrap (mAt L a))=mAt L b - mAt L a:=by
 have h1:=h.far a (by omega)
 have h2:=h.far b hb
 have h3:mAt L a≤mAt L b:=by
  rcases Nat.lt_or_ge a b with g | g
  ·exact Int.le_of_lt (h.rise a b g hb)
  ·obtain rfl:a=b:=by omega
   exact Int.le_refl _
 rw [IntKind.wrap_u64,IntKind.wrap_u64,IntKind.wrap_u64]
 omega
theorem rings_any (L:List Mo) (g cap:Nat) (long keep:Int) (hL:OkM L) (w:World) (hC:CellsM g L w) :
  Calls Tryz.prog 9 #[.slice (some ⟨g,0,none⟩) L.length cap,.int .u64 long,.int .u64 keep] w fun e w'=>(∃ bz:Bool,e=.returned (.bool bz)∧(bz=true ↔ ringP L long keep))∧∃ q,w'=w.drewN q:=by
 have HL:=hid_of hL
 have HK0:Hid (KM g L w w):=⟨hC,0,rfl⟩
 have HAp:Hid (∀ a b W,a≤b→b < L.length→Calls Tryz.prog 15 #[.int .i64 (mAt L a),.int .i64 (mAt L b)] W fun e w'=>e=.returned (.int .u64 (mAt L b - mAt L a))∧w'=W):=fun a b W h1 h2=>apart_any _ _ (hL.apart h1 h2) W
 have hlen:=hL.len
 clear hL hC
 go_enter Tryz.func9,Tryz.ntmps9
 go_wp2_with fail
 go_loopw [7,8,9,10,11,12] (fun a _ _ _ _ _ wr=>∃ j:Nat,j≤L.length∧a=.int .i64 (j:Int)∧Hid (NoneTo L long keep j∧KM g L w wr)) (fun a _ _ _ _ _ _=>L.length - (intOf a).toNat)
 case atStart=>exact ⟨0,Nat.zero_le _,rfl,fun i hi=>absurd hi (Nat.not_lt_zero i),HK0.out⟩
 case round =>
  clear HK0
  obtain ⟨j,hj,rfl,H⟩:=hrel
  by_cases hlt:j < L.length
  ·have hlt':(j:Int) < (L.length:Int):=by omega
   go_upto_block 2 with fail
   go_cut [8,9] from 13 (fun h _ W=>∃ bh:Bool,h=.bool bh∧Hid (Is bh (heldP L long j)∧KM g L w W))
   case first =>
    go_wp2_with fail
    go_loopw [8,9] (fun h a wr=>∃ (bh:Bool) (t:Nat) (i:Int),t≤j+1∧i+1=(t:Int)∧h=.bool bh∧a=.int .i64 i∧Hid (HeldTo L long j t bh∧KM g L w wr)) (fun _ a _=>(intOf a+1).toNat)
    case atStart=>exact ⟨false,j+1,(j:Int),Nat.le_refl _,rfl,rfl,rfl,held_start L long j,H.out.2⟩
    case round =>
     clear H
     obtain ⟨bh,t,i,ht,hi,rfl,rfl,H⟩:=hrel
     rcases Nat.eq_zero_or_pos t with h0 | h0
     ·obtain rfl:i=-1:=by omega
      have HX:Hid (Is bh (heldP L long j)):=held_exit H.out.1 (fun s hs=>by omega) ht
      go_wp2_with fail
      go_meet
      exact ⟨bh,rfl,HX.out,H.out.2⟩
     ·obtain ⟨s,rfl⟩:∃ s,t=s+1:=⟨t - 1,by omega⟩
      obtain rfl:i=(s:Int):=by omega
      have hs0:(0:Int)≤(s:Int):=by omega
      obtain ⟨p0,p1⟩:=H.out.2.c s (by omega)
      cases hh:mHo L s
      ·rw [hh] at p1
       have HX:Hid (Is bh (heldP L long j)):=held_exit H.out.1 (fun s' hs' _ _=>(by have e:s=s':=(by omega);rw [← e];exact hh)) ht
       clear hh
       go_wp2_with fail
       go_meet
       exact ⟨bh,rfl,HX.out,H.out.2⟩
      ·rw [hh] at p1
       have hh':=hid_of hh
       clear hh
       cases bh
       ·obtain ⟨r0,r1⟩:=H.out.2.c j (by omega)
        have HG:Hid _:=held_go H.out.1 (by omega) hh'.out
        have HA:Hid _:=fun W=>HAp.out s j W (by omega) hlt
        have v1:IntKind.i64.wrap ((s:Int) - 1)=(s:Int) - 1:=by rw [IntKind.wrap_i64];omega
        go_upto_region 8 with fail
        go_quiet (first | (go_at_call 15;exact Calls.quiet_of_same (HA.out _)))
        go_wp2_with fail
        exact ⟨⟨decide (long≤mAt L j - mAt L s),s,(s:Int) - 1,by omega,by omega,rfl,rfl,HG.out,H.out.2.drewN _⟩,by simp [intOf]⟩
       ·have HX:Hid (Is true (heldP L long j)):=held_exit H.out.1 (fun s' hs' _ h=>by cases h) ht
        go_wp2_with fail
        go_meet
        exact ⟨true,rfl,HX.out,H.out.2⟩
   case rest =>
   obtain ⟨bh,rfl,H2⟩:=hcut
   cases bh
   ·have HN:Hid (NoneTo L long keep (j+1)):=none_next H.out.1 (fun h=>by have:=H2.out.1.2 h.1;cases this)
    have v1:IntKind.i64.wrap ((j:Int)+1)=((j+1:Nat):Int):=by rw [IntKind.wrap_i64];omega
    clear H
    go_wp2_with fail
    exact ⟨⟨j+1,hlt,rfl,HN.out,H2.out.2⟩,by simp [intOf];omega⟩
   ·have v1:IntKind.i64.wrap ((j:Int)+1)=((j+1:Nat):Int):=by rw [IntKind.wrap_i64];omega
    go_upto_block 4 with fail
    go_cut [10,11,12] from 13 (fun c _ _ W=>∃ bc:Bool,c=.bool bc∧Hid (Is bc (endedP L keep j)∧KM g L w W))
    case first =>
     clear H
     go_wp2_with fail
     go_loopw [10,11,12] (fun c a _ wr=>∃ (bc:Bool) (x:Nat),j < x∧x≤L.length∧c=.bool bc∧a=.int .i64 (x:Int)∧Hid (EndTo L keep j x bc∧KM g L w wr)) (fun _ a _ _=>L.length - (intOf a).toNat)
     case atStart=>exact ⟨false,j+1,Nat.lt_succ_self j,hlt,rfl,rfl,end_start L keep j,H2.out.2⟩
     case round =>
      clear H2
      obtain ⟨bc,x,hx1,hx2,rfl,rfl,HE⟩:=hrel
      by_cases hx:x < L.length
      ·have hx':(x:Int) < (L.length:Int):=by omega
       have v1:IntKind.i64.wrap ((x:Int)+1)=((x+1:Nat):Int):=by rw [IntKind.wrap_i64];omega
       go_upto_block 5 with fail
       go_cut [10,12] from 52 to 88 (fun c _ W=>∃ bc:Bool,c=.bool bc∧Hid (EndTo L keep j (x+1) bc∧KM g L w W))
       case first =>
        clear v1
        go_wp2_with fail
        go_loopw [10,12] (fun c a wr=>∃ (bc:Bool) (y:Nat),x≤y∧y≤L.length∧c=.bool bc∧a=.int .i64 (y:Int)∧Hid (EndIn L keep j x y bc∧KM g L w wr)) (fun _ a _=>L.length - (intOf a).toNat)
        case atStart=>exact ⟨bc,x,Nat.le_refl _,hx2,rfl,rfl,in_start HE.out.1,HE.out.2⟩
        case round =>
         clear HE
         obtain ⟨bc,y,hy1,hy2,rfl,rfl,HI⟩:=hrel
         by_cases hy:y < L.length
         ·have hy':(y:Int) < (L.length:Int):=by omega
          obtain ⟨p0,p1⟩:=HI.out.2.c y hy
          cases hh:mHo L y
          ·rw [hh] at p1
           obtain ⟨r0,r1⟩:=HI.out.2.c x hx
           have HG:Hid _:=in_go HI.out.1 hy1 hh
           have HA:Hid _:=fun W=>HAp.out x y W hy1 hy
           have v1:IntKind.i64.wrap ((y:Int)+1)=((y+1:Nat):Int):=by rw [IntKind.wrap_i64];omega
           clear hh
           cases bc
           ·go_upto_region 17 with fail
            go_quiet (first | (go_at_call 15;exact Calls.quiet_of_same (HA.out _)))
            go_wp2_with fail
            exact ⟨⟨decide (keep≤mAt L y - mAt L x),y+1,by omega,hy,rfl,rfl,HG.out,HI.out.2.drewN _⟩,by simp [intOf];omega⟩
           ·go_upto_region 17 with fail
            go_quiet (fail)
            go_wp2_with fail
            exact ⟨⟨true,y+1,by omega,hy,rfl,rfl,HG.out,HI.out.2.drewN _⟩,by simp [intOf];omega⟩
          ·rw [hh] at p1
           have HX:Hid (EndTo L keep j (x+1) bc):=in_exit HI.out.1 hx1 hy1 hy2 (fun _=>hh)
           clear hh
           go_wp2_with fail
           go_meet
           exact ⟨bc,rfl,HX.out,HI.out.2⟩
         ·have HX:Hid (EndTo L keep j (x+1) bc):=in_exit HI.out.1 hx1 hy1 hy2 (fun h=>absurd h hy)
          go_wp2_with fail
          go_meet
          exact ⟨bc,rfl,HX.out,HI.out.2⟩
       case rest =>
       obtain ⟨bc,rfl,HF⟩:=hcut
       clear HE
       go_wp2_with fail
       exact ⟨⟨bc,x+1,by omega,hx,rfl,rfl,HF.out⟩,by simp [intOf];omega⟩
      ·have HX:Hid (Is bc (endedP L keep j)):=by
        obtain rfl:x=L.length:=by omega
        exact end_all HE.out.1
       go_wp2_with fail
       go_meet
       exact ⟨bc,rfl,HX.out,HE.out.2⟩
    case rest =>
    obtain ⟨bc,rfl,H3⟩:=hcut
    cases bc
    ·have HR:Hid (ringP L long keep):=⟨j,hlt,H2.out.1.1 rfl,fun h=>by have:=H3.out.1.2 h;cases this⟩
     clear H H2
     go_wp2_with fail
     go_ret
     exact ⟨⟨true,rfl,fun _=>HR.out,fun _=>rfl⟩,H3.out.2.q⟩
    ·have HN:Hid (NoneTo L long keep (j+1)):=none_next H.out.1 (fun h=>h.2 (H3.out.1.1 rfl))
     clear H H2
     go_wp2_with fail
     exact ⟨⟨j+1,hlt,rfl,HN.out,H3.out.2⟩,by simp [intOf];omega⟩
  ·have HN:Hid (¬ ringP L long keep):=by
    obtain rfl:j=L.length:=by omega
    exact none_all H.out.1
   go_wp2_with fail
   go_ret
   exact ⟨⟨false,rfl,fun h=>(by cases h),fun h=>absurd h HN.out⟩,H.out.2.q⟩
end Go.Proofs.YtlgkfeeclgcgbaaGreatDoor.Al
/- ALARM: what the law holds between its calls. Own work of the verifier. -/
namespace Go.Proofs.YtlgkfeeclgcgbaaGreatDoor.Al
open Go.RowKit Go.Sort Me
theorem lbv_sep {B:Nat} {W W1:World} {v:Value} {L:List La.Lb} (h:Ru.LbV B W v L) (hk:∀ k,B≤k→k < W.heap.size→W1.heap[k]? =W.heap[k]?):Ru.LbV B W1 v L:=by
 obtain ⟨ao,b,o,cap,rfl,h1,h2,h3,h4,h5⟩:=h
 refine ⟨ao,b,o,cap,rfl,h1,h2,h3,h4,?_⟩
 by_cases k:L=[]
 ·subst k;exact fun i hi=>by simp at hi
 ·intro i hi
  obtain ⟨q1,q2⟩:=h5 i hi
  have hb:=hk b (h1 k).2 (La.lt_of_cell q1)
  exact ⟨(World.cell?_of_block (w:=W) (a:=⟨b,o+i*2,none⟩) hb).trans q1,(World.cell?_of_block (w:=W) (a:=⟨b,o+i*2+1,none⟩) hb).trans q2⟩
theorem rv_sep {B:Nat} {W W1:World} {t:Ru.RT} {v:Value} (h:Ru.RV B W t v) (hk:∀ k,B≤k→k < W.heap.size→W1.heap[k]? =W.heap[k]?):Ru.RV B W1 t v :=
 Ru.RV.map (Nat.le_refl _) (fun b o _ hb hu=>(World.cell?_of_block (w:=W) (a:=⟨b,o,none⟩) (hk b hb (La.lt_of_cell hu))).trans hu) (fun _ _ hl=>lbv_sep hl hk) t v h
structure FX (r b g cap:Nat) (k:Int) (x:Nat) (rn:List UInt8) (la:Option Addr) (ln lc:Nat) (wi n d:Int) (aa:Option Addr) (an ac:Nat) (st si e0 last:Int) (rest:Array Value) (w W:World):Prop where
 ring:∃ u tv sv,Ri.Rg r r 2 [10] [(oneS 5,u)] 0 tv sv W
 bd:W.heap[b]? =some (.cells #[.slice (some ⟨g,0,none⟩) 1 cap,.int .i64 last] 56)
 al:W.heap[g]? =some (.cells (alC [120] k x rn (.slice la ln lc) wi n d (.slice aa an ac) 10 5 st si e0++rest) 63)
 rv:∃ Wr,Ru.RV (b+1) Wr Ru.rl4 (Ru.rx k x rn (.slice la ln lc) wi n d (.slice aa an ac))∧b < Wr.heap.size∧Wr.heap.size≤g∧∀ j,b+1≤j→j < Wr.heap.size→W.heap[j]? =Wr.heap[j]?
 bel:Below w.heap.size w W
 le:w.heap.size≤r∧r < b
theorem FX.ltg {r b g cap:Nat} {k:Int} {x:Nat} {rn:List UInt8} {la:Option Addr} {ln lc:Nat} {wi n d:Int} {aa:Option Addr} {an ac:Nat} {st si e0 last:Int} {rest:Array Value} {w W:World} (h:FX r b g cap k x rn la ln lc wi n d aa an ac st si e0 last rest w W):b < g:=by
 obtain ⟨Wr,-,h1,h2,-⟩:=h.rv
 omega
theorem FX.noring {r b g cap:Nat} {k:Int} {x:Nat} {rn:List UInt8} {la:Option Addr} {ln lc:Nat} {wi n d:Int} {aa:Option Addr} {an ac:Nat} {st si e0 last:Int} {rest:Array Value} {w W:World} (h:FX r b g cap k x rn la ln lc wi n d aa an ac st si e0 last rest w W):Ri.NoRing W (fun p=>p=b∨p=g):=by
 intro p hp
 rcases hp with rfl | rfl
 ·exact ⟨_,_,_,h.bd,by decide,by decide,by decide,by decide,by decide,by decide⟩
 ·exact ⟨_,_,_,h.al,by decide,by decide,by decide,by decide,by decide,by decide⟩
theorem FX.step {r b g cap:Nat} {k:Int} {x:Nat} {rn:List UInt8} {la:Option Addr} {ln lc:Nat} {wi n d:Int} {aa:Option Addr} {an ac:Nat} {st si e0 last z s9 now:Int} {rest:Array Value} {w W W1:World} {e:Ending} (h:FX r b g cap k x rn la ln lc wi n d aa an ac st si e0 last rest w W)
  (hq:StQ b g cap k x rn la ln lc wi n d aa an ac 10 5 st z s9 now rest W e W1):FX r b g cap k x rn la ln lc wi n d aa an ac z s9 0 now rest w W1:=by
 obtain ⟨-,h1,h2,h3,h4,h5,h6,h7⟩:=hq
 have hbg:=h.ltg
 have hle:=h.le
 have hc:Chg (fun p=>p=b∨p=g) W W1:=⟨h3,h4,h5,h6,fun j hj hn=>h7 j hj (fun e=>hn (Or.inl e)) (fun e=>hn (Or.inr e))⟩
 refine ⟨?_,h1,h2,?_,?_,h.le⟩
 ·obtain ⟨u,tv,sv,hg⟩:=h.ring
  exact ⟨u,tv,sv,hg.chg hc h.noring⟩
 ·obtain ⟨Wr,r1,r2,r3,r4⟩:=h.rv
  refine ⟨Wr,r1,r2,r3,fun j hj hl=>?_⟩
  have hgl:=(Array.getElem?_eq_some_iff.1 h.al).1
  rw [h7 j (by omega) (by omega) (by omega),r4 j hj hl]
 ·have:=h.bel.size
  exact ⟨h3.trans h.bel.os,h4.trans h.bel.tape,h5.trans h.bel.output,by omega,fun j hj=>by rw [h7 j (by omega) (by omega) (by omega)];exact h.bel.block j hj⟩
theorem FX.eval {r b g cap:Nat} {k:Int} {x:Nat} {rn:List UInt8} {la:Option Addr} {ln lc:Nat} {wi n d:Int} {aa:Option Addr} {an ac:Nat} {st si e0 last:Int} {rest:Array Value} {w W W1:World} (h:FX r b g cap k x rn la ln lc wi n d aa an ac st si e0 last rest w W) (hk:Ru.Kd w) (hx:La.Ex b W W1) (now:Int) (h0:10≤now) (h1:now≤1000) :
  Calls Tryz.prog 29 #[.pointer (some ⟨r,0,none⟩),.int .i64 now,Ru.rx k x rn (.slice la ln lc) wi n d (.slice aa an ac)] W1 fun e w'=>e=.returned (.tuple #[.agg #[.bool true,.bool true,.float .f64 0],.int .i64 0])∧Below W1.heap.size W1 w':=by
 obtain ⟨u,tv,sv,hg⟩:=h.ring
 have hle:=h.le
 have hc:Chg (fun p=>p=b) W W1:=⟨hx.os,hx.tape,hx.output,hx.size,fun j hj hn=>hx.block j hj hn⟩
 have hbw:Below w.heap.size w W1:=h.bel.trans (hx.below (B:=w.heap.size) (by omega) h.bel.size)
 refine Ri.eval_at r u tv sv _ now h0 h1 W1 (hg.chg hc (fun p hp=>h.noring p (Or.inl hp))) ?_ (hk.below hbw)
 obtain ⟨Wr,r1,r2,r3,r4⟩:=h.rv
 have hgl:=(Array.getElem?_eq_some_iff.1 h.al).1
 exact (rv_sep r1 (fun j hj hl=>by rw [hx.block j (by omega) (by omega),r4 j hj hl])).mono (Nat.zero_le _)
theorem FX.step20 {r b g cap:Nat} {k:Int} {x:Nat} {rn:List UInt8} {la:Option Addr} {ln lc:Nat} {wi n d:Int} {aa:Option Addr} {an ac:Nat} {rest:Array Value} {w W:World} (h:FX r b g cap k x rn la ln lc wi n d aa an ac 1 0 0 (-4611686018427387905) rest w W) (hk:Ru.Kd w) :
  Calls Tryz.prog 7 #[.pointer (some ⟨b,0,none⟩),.pointer (some ⟨r,0,none⟩),.int .i64 20] W fun e w'=>StQ b g cap k x rn la ln lc wi n d aa an ac 10 5 1 2 20 20 rest W e w' :=
 bstep b g cap (Nat.ne_of_lt h.ltg) _ k x rn la ln lc wi n d aa an ac 10 5 1 0 0 2 20 _ 20 rest (by decide) (by decide) (by decide) (by decide) W h.bd h.al (fun W1 hx=>step_idle g _ [120] k x rn la ln lc wi n d aa an ac 10 5 0 0 20 true rest 2 20 rfl rfl W1 (Ex_at' hx (Nat.ne_of_gt h.ltg) h.al) (h.eval hk hx 20 (by decide) (by decide)))
theorem FX.step30 {r b g cap:Nat} {k:Int} {x:Nat} {rn:List UInt8} {la:Option Addr} {ln lc:Nat} {wi n d:Int} {aa:Option Addr} {an ac:Nat} {rest:Array Value} {w W:World} (h:FX r b g cap k x rn la ln lc wi n d aa an ac 2 20 0 20 rest w W) (hk:Ru.Kd w) :
  Calls Tryz.prog 7 #[.pointer (some ⟨b,0,none⟩),.pointer (some ⟨r,0,none⟩),.int .i64 30] W fun e w'=>StQ b g cap k x rn la ln lc wi n d aa an ac 10 5 2 3 30 30 rest W e w' :=
 bstep b g cap (Nat.ne_of_lt h.ltg) _ k x rn la ln lc wi n d aa an ac 10 5 2 20 0 3 30 _ 30 rest (by decide) (by decide) (by decide) (by decide) W h.bd h.al (fun W1 hx=>step_wait g _ [120] k x rn la ln lc wi n d aa an ac 10 5 20 0 30 true (by decide) rest 3 30 rfl rfl W1 (Ex_at' hx (Nat.ne_of_gt h.ltg) h.al) (h.eval hk hx 30 (by decide) (by decide)))
end Go.Proofs.YtlgkfeeclgcgbaaGreatDoor.Al
/- ALARM: what AlarmRings holds between its calls. Own work of the verifier. -/
namespace Go.Proofs.YtlgkfeeclgcgbaaGreatDoor.Al
open Go.RowKit Go.Sort Me
structure Alm where
 k:Int
 x:Nat
 rn:List UInt8
 la:Option Addr
 ln:Nat
 lc:Nat
 wi:Int
 n:Int
 d:Int
 aa:Option Addr
 an:Nat
 ac:Nat
abbrev Alm.c (A:Alm) (wait keep st si e:Int):Array Value:=alC [120] A.k A.x A.rn (.slice A.la A.ln A.lc) A.wi A.n A.d (.slice A.aa A.an A.ac) wait keep st si e
structure FY (b g cap:Nat) (A:Alm) (long keep st si e0 last:Int) (rest:Array Value) (w W:World):Prop where
 bd:W.heap[b]? =some (.cells #[.slice (some ⟨g,0,none⟩) 1 cap,.int .i64 last] 56)
 al:W.heap[g]? =some (.cells (A.c long keep st si e0++rest) 63)
 rv:∃ Wr,Ru.RV (b+1) Wr (Ru.rlW Ru.W62) (Ru.rx A.k A.x A.rn (.slice A.la A.ln A.lc) A.wi A.n A.d (.slice A.aa A.an A.ac))∧b < Wr.heap.size∧Wr.heap.size≤g∧∀ j,b+1≤j→j < Wr.heap.size→W.heap[j]? =Wr.heap[j]?
 bel:Below w.heap.size w W
 le:w.heap.size≤b
theorem FY.ltg {b g cap:Nat} {A:Alm} {long keep st si e0 last:Int} {rest:Array Value} {w W:World} (h:FY b g cap A long keep st si e0 last rest w W):b < g:=by
 obtain ⟨Wr,-,h1,h2,-⟩:=h.rv
 omega
theorem FY.lt {b g cap:Nat} {A:Alm} {long keep st si e0 last:Int} {rest:Array Value} {w W:World} (h:FY b g cap A long keep st si e0 last rest w W):g < W.heap.size:=(Array.getElem?_eq_some_iff.1 h.al).1
theorem FY.upto {b g cap:Nat} {A:Alm} {long keep st si e0 last:Int} {rest:Array Value} {w W W1:World} (h:FY b g cap A long keep st si e0 last rest w W) (ho:W1.os=W.os) (ht:W1.tape=W.tape) (hp:W1.output=W.output) (hs:W.heap.size≤W1.heap.size) (hk:∀ j,j≤g→W1.heap[j]? =W.heap[j]?):FY b g cap A long keep st si e0 last rest w W1:=by
 have hbg:=h.ltg
 have hle:=h.le
 have hlt:=h.lt
 refine ⟨(hk b (by omega)).trans h.bd,(hk g (by omega)).trans h.al,?_,?_,h.le⟩
 ·obtain ⟨Wr,r1,r2,r3,r4⟩:=h.rv
  exact ⟨Wr,r1,r2,r3,fun j hj hl=>(hk j (by omega)).trans (r4 j hj hl)⟩
 ·have:=h.bel.size
  exact ⟨ho.trans h.bel.os,ht.trans h.bel.tape,hp.trans h.bel.output,by omega,fun j hj=>(hk j (by omega)).trans (h.bel.block j hj)⟩
theorem FY.below {b g cap:Nat} {A:Alm} {long keep st si e0 last:Int} {rest:Array Value} {w W W1:World} (h:FY b g cap A long keep st si e0 last rest w W) (hb:Below W.heap.size W W1):FY b g cap A long keep st si e0 last rest w W1 :=
 h.upto hb.os hb.tape hb.output hb.size (fun j hj=>hb.block j (Nat.lt_of_le_of_lt hj h.lt))
theorem FY.stepped {b g cap:Nat} {A:Alm} {long keep st si e0 last z s9 now:Int} {rest:Array Value} {w W W1:World} {e:Ending} (h:FY b g cap A long keep st si e0 last rest w W)
  (hq:StY b g cap A.k A.x A.rn A.la A.ln A.lc A.wi A.n A.d A.aa A.an A.ac long keep z s9 now rest W e W1):FY b g cap A long keep z s9 0 now rest w W1:=by
 obtain ⟨-,h1,h2,h3,h4,h5,h6,h7⟩:=hq
 have hbg:=h.ltg
 have hle:=h.le
 have hlt:=h.lt
 refine ⟨h1,h2,?_,?_,h.le⟩
 ·obtain ⟨Wr,r1,r2,r3,r4⟩:=h.rv
  refine ⟨Wr,r1,r2,r3,fun j hj hl=>?_⟩
  rw [h7 j (by omega) (by omega) (by omega),r4 j hj hl]
 ·have:=h.bel.size
  exact ⟨h3.trans h.bel.os,h4.trans h.bel.tape,h5.trans h.bel.output,by omega,fun j hj=>by rw [h7 j (by omega) (by omega) (by omega)];exact h.bel.block j hj⟩
theorem FY.eval {b g cap:Nat} {A:Alm} {long keep st si e0 last:Int} {rest:Array Value} {w W W1:World} (h:FY b g cap A long keep st si e0 last rest w W) (hk:Ru.Kd w) (hx:La.Ex b W W1) (ho:Bool) (now:Int) (h0:-4611686018427387904≤now) (h1:now≤4611686018427387904) (r:Nat) (u tv sv:Value) (hg:Ri.Rg r r 1 [now] [(oneS (Ri.nOf ho),u)] 0 tv sv W) :
  Calls Tryz.prog 29 #[.pointer (some ⟨r,0,none⟩),.int .i64 now,Ru.rx A.k A.x A.rn (.slice A.la A.ln A.lc) A.wi A.n A.d (.slice A.aa A.an A.ac)] W1 fun e w'=>e=.returned (.tuple #[.agg #[.bool true,.bool ho,.float .f64 0],.int .i64 0])∧Below W1.heap.size W1 w':=by
 have hle:=h.le
 have hc:Chg (fun p=>p=b) W W1:=⟨hx.os,hx.tape,hx.output,hx.size,fun j hj hn=>hx.block j hj hn⟩
 have hbw:Below w.heap.size w W1:=h.bel.trans (hx.below (B:=w.heap.size) (by omega) h.bel.size)
 refine Ri.eval_1 ho r u tv sv _ now h0 h1 W1 (hg.chg hc (fun p hp=>?_)) ?_ (hk.below hbw)
 ·obtain rfl:p=b:=hp
  exact ⟨_,_,_,h.bd,by decide,by decide,by decide,by decide,by decide,by decide⟩
 ·obtain ⟨Wr,r1,r2,r3,r4⟩:=h.rv
  have hgl:=h.lt
  exact (rv_sep r1 (fun j hj hl=>by rw [hx.block j (by omega) (by omega),r4 j hj hl])).mono (Nat.zero_le _)
theorem FY.step {b g cap:Nat} {A:Alm} {long keep st si e0 last:Int} {rest:Array Value} {w W:World} (h:FY b g cap A long keep st si e0 last rest w W) (hk:Ru.Kd w) (hst:st=1∨st=2∨st=3∨st=4) (ho:Bool) (now:Int) (h0:-4611686018427387904≤now) (h1:now≤4611686018427387904) (hl:last < now) (l0:0≤long) (l1:long≤4611686018427387904) (k0:0≤keep) (k1:keep≤4611686018427387904) (r:Nat) (u tv sv:Value) (hg:Ri.Rg r r 1 [now] [(oneS (Ri.nOf ho),u)] 0 tv sv W) (z s9:Int) (hz:z=nxF st ho long keep si now) (hs:s9=if z=st then si else now) :
  Calls Tryz.prog 7 #[.pointer (some ⟨b,0,none⟩),.pointer (some ⟨r,0,none⟩),.int .i64 now] W fun e w'=>StY b g cap A.k A.x A.rn A.la A.ln A.lc A.wi A.n A.d A.aa A.an A.ac long keep z s9 now rest W e w':=by
 have w1:IntKind.i64.wrap (now - long)=now - long:=by rw [IntKind.wrap_i64];omega
 have w2:IntKind.i64.wrap (now - keep)=now - keep:=by rw [IntKind.wrap_i64];omega
 have hS:∀ W1,La.Ex b W W1→Calls Tryz.prog 14 #[.pointer (some ⟨g,0,none⟩),.pointer (some ⟨r,0,none⟩),.int .i64 now] W1 fun e w'=>e=.returned (.tuple #[])∧La.Ex g W1 w'∧w'.heap[g]? =some (.cells (A.c long keep z s9 0++rest) 63):=fun W1 hx=>by
  have ha:=Ex_at' hx (Nat.ne_of_gt h.ltg) h.al
  have hE:=h.eval hk hx ho now h0 h1 r u tv sv hg
  rcases hst with rfl | rfl | rfl | rfl
  ·exact step_idle g _ [120] A.k A.x A.rn A.la A.ln A.lc A.wi A.n A.d A.aa A.an A.ac long keep si e0 now ho rest z s9 hz hs W1 ha hE
  ·exact step_wait g _ [120] A.k A.x A.rn A.la A.ln A.lc A.wi A.n A.d A.aa A.an A.ac long keep si e0 now ho w1 rest z s9 hz hs W1 ha hE
  ·exact step_ring g _ [120] A.k A.x A.rn A.la A.ln A.lc A.wi A.n A.d A.aa A.an A.ac long keep si e0 now ho rest z s9 hz hs W1 ha hE
  ·exact step_fade g _ [120] A.k A.x A.rn A.la A.ln A.lc A.wi A.n A.d A.aa A.an A.ac long keep si e0 now ho w2 rest z s9 hz hs W1 ha hE
 by_cases hzs:z=st
 ·exact bstep_same b g cap (Nat.ne_of_lt h.ltg) _ A.k A.x A.rn A.la A.ln A.lc A.wi A.n A.d A.aa A.an A.ac long keep st si e0 z s9 last now rest h0 h1 hl hzs W h.bd h.al hS
 ·exact (bstep b g cap (Nat.ne_of_lt h.ltg) _ A.k A.x A.rn A.la A.ln A.lc A.wi A.n A.d A.aa A.an A.ac long keep st si e0 z s9 last now rest h0 h1 hl hzs W h.bd h.al hS).mono (fun _ _=>StQ.sty)
def lastM (M:List Mo):Int:=if M=[] then -4611686018427387905 else mAt M (M.length - 1)
theorem okM_nil:OkM []:=⟨fun i j _ h=>(by cases h),fun i h=>(by cases h),by decide⟩
theorem okM_snoc {M:List Mo} {now:Int} {h:Bool} (ok:OkM M) (h0:-4611686018427387904≤now) (h1:now≤4611686018427387904) (hl:lastM M < now) (hn:M.length+1 < 4611686018427387904):OkM (M++[(now,h)]):=by
 have hN:mAt (M++[(now,h)]) M.length=now:=mAt_new M (now,h)
 refine ⟨fun i j hij hj=>?_,fun i hi=>?_,by rw [len1];exact hn⟩
 ·rw [len1] at hj
  by_cases hjl:j < M.length
  ·rw [mAt_old M _ hjl,mAt_old M _ (Nat.lt_trans hij hjl)]
   exact ok.rise i j hij hjl
  ·obtain rfl:j=M.length:=by omega
   rw [hN,mAt_old M _ hij]
   have hne:M≠[]:=fun e=>by rw [e] at hij;cases hij
   unfold lastM at hl
   rw [if_neg hne] at hl
   rcases Nat.lt_or_ge i (M.length - 1) with q | q
   ·have:=ok.rise i (M.length - 1) q (by omega)
    omega
   ·obtain rfl:i=M.length - 1:=by omega
    exact hl
 ·rw [len1] at hi
  by_cases hil:i < M.length
  ·rw [mAt_old M _ hil]
   exact ok.far i hil
  ·obtain rfl:i=M.length:=by omega
   rw [hN]
   exact ⟨h0,h1⟩
theorem lastM_snoc (M:List Mo) (now:Int) (h:Bool):lastM (M++[(now,h)])=now:=by
 unfold lastM
 rw [if_neg (by simp),len1,Nat.add_sub_cancel]
 exact mAt_new M (now,h)
theorem mch_nil (long keep:Int):Mch [] long keep 1 0:=Or.inl ⟨rfl,fun ⟨_,h,_⟩=>(by cases h),fun k h=>(by cases h)⟩
theorem Mch.st {L:List Mo} {long keep st si:Int} (h:Mch L long keep st si):st=1∨st=2∨st=3∨st=4:=by
 rcases h with ⟨h,-⟩ | ⟨h,-⟩ | ⟨h,-⟩ | ⟨h,-⟩
 ·exact Or.inl h
 ·exact Or.inr (Or.inl h)
 ·exact Or.inr (Or.inr (Or.inl h))
 ·exact Or.inr (Or.inr (Or.inr h))
theorem Mch.tell {M:List Mo} {now:Int} {h:Bool} {long keep z s9:Int} (hM:Mch (M++[(now,h)]) long keep z s9):(z=1∧h=false∧¬ ringP (M++[(now,h)]) long keep)∨(z=2∧h=true∧¬ ringP (M++[(now,h)]) long keep)∨(z=3∧h=true∧ringP (M++[(now,h)]) long keep)∨(z=4∧h=false∧ringP (M++[(now,h)]) long keep):=by
 have e:mHo (M++[(now,h)]) M.length=h:=mHo_new M (now,h)
 rcases hM with ⟨h1,h2,h3⟩ | ⟨h1,h2,p,h3,h4,h5,-⟩ | ⟨h1,h2,h3⟩ | ⟨h1,h2,p,h3,h4,h5,-⟩
 ·exact Or.inl ⟨h1,e.symm.trans (h3 _ (len1 _ _).symm),h2⟩
 ·exact Or.inr (Or.inl ⟨h1,e.symm.trans (h5 _ (by rw [len1] at h3;omega) (by rw [len1];omega)),h2⟩)
 ·exact Or.inr (Or.inr (Or.inl ⟨h1,e.symm.trans (h3 _ (len1 _ _).symm),h2⟩))
 ·exact Or.inr (Or.inr (Or.inr ⟨h1,e.symm.trans (h5 _ (by rw [len1] at h3;omega) (by rw [len1];omega)),h2⟩))
def flM (M:List Mo):List Value:=M.flatMap fun m=>[.int .i64 m.1,.bool m.2]
theorem flM_at:∀ (M:List Mo) (i:Nat),i < M.length→(flM M)[i*2]? =some (.int .i64 (mAt M i))∧(flM M)[i*2+1]? =some (.bool (mHo M i))
 | [],i,h=>by cases h
 | m::M,0,_=>⟨rfl,rfl⟩
 | m::M,i+1,h=>by
  have:=flM_at M i (by simpa using h)
  have e:flM (m::M)=[.int .i64 m.1,.bool m.2]++flM M:=rfl
  rw [e,List.getElem?_append_right (by simp;omega),List.getElem?_append_right (by simp;omega)]
  have e1:(i+1)*2 - [Value.int .i64 m.1,.bool m.2].length=i*2:=by simp;omega
  have e2:(i+1)*2+1 - [Value.int .i64 m.1,.bool m.2].length=i*2+1:=by simp;omega
  rw [e1,e2]
  exact this
theorem flM_snoc (M:List Mo) (m:Mo):flM (M++[m])=flM M++[.int .i64 m.1,.bool m.2]:=by simp [flM]
def DoneR (g dg cap:Nat) (M:List Mo) (W:World):Prop:=W.ownsRow (g+1) 32 2 (.slice (some ⟨dg,0,none⟩) M.length cap) M.length (flM M)
theorem DoneR.open_ {g dg cap:Nat} {M:List Mo} {W:World} (h:DoneR g dg cap M W):g < dg∧CellsM dg M W∧dg < W.heap.size:=by
 obtain ⟨h1,h2⟩:=h
 rcases h2 with ⟨h2,-⟩ | ⟨g',cap',cur,hv,hb,hg,h3,h4,h5,h6⟩
 ·cases h2
 ·cases hv
  refine ⟨hb,fun i hi=>?_,(Array.getElem?_eq_some_iff.1 hg).1⟩
  obtain ⟨q1,q2⟩:=flM_at M i hi
  have key:∀ j u,j < M.length*2→(flM M)[j]? =some u→W.cell? ⟨dg,j,none⟩=some u:=fun j u hj hu=>by
   rw [← h6,List.getElem?_take_of_lt hj] at hu
   simp only [World.cell?,hg]
   simpa using hu
  exact ⟨key _ _ (by omega) q1,key _ _ (by omega) q2⟩
theorem DoneR.keep {g dg cap:Nat} {M:List Mo} {W W1:World} (h:DoneR g dg cap M W) (hk:W1.heap[dg]? =W.heap[dg]?):DoneR g dg cap M W1:=by
 refine ⟨h.1,?_⟩
 rcases h.2 with ⟨h2,-⟩ | ⟨g',cap',cur,hv,hb,hg,h3⟩
 ·cases h2
 ·cases hv
  exact Or.inr ⟨dg,cap,cur,rfl,hb,hk.trans hg,h3⟩
theorem DoneR.below {g dg cap:Nat} {M:List Mo} {W W1:World} (h:DoneR g dg cap M W) (hb:Below W.heap.size W W1):DoneR g dg cap M W1:=h.keep (hb.block dg h.open_.2.2)
theorem DoneR.empty (g:Nat) (W:World) (hg:g < W.heap.size):DoneR g W.heap.size 0 [] (W.alloc (.cells #[] 32)) :=
 ⟨rfl,Or.inr ⟨_,0,#[],rfl,hg,new_1 W _,Nat.le_refl _,Nat.zero_le _,rfl,rfl⟩⟩
end Go.Proofs.YtlgkfeeclgcgbaaGreatDoor.Al
/- ALARM: the law's fixed. Own work of the verifier. -/
set_option maxRecDepth 100000
set_option maxHeartbeats 4000000
namespace Go.Proofs.YtlgkfeeclgcgbaaGreatDoor.Al
open Go.RowKit Go.Sort Me
theorem FX.made {r b g cap:Nat} {k:Int} {x:Nat} {rn:List UInt8} {la:Option Addr} {ln lc:Nat} {wi n d:Int} {aa:Option Addr} {an ac:Nat} {last:Int} {rest:Array Value} {w w3 w4 w5 Wr:World} {u tv sv:Value} (hr:w.heap.size≤r∧r < b) (h3:Below w.heap.size w w3)
  (hbd:w3.heap[b]? =some (.cells #[.slice (some ⟨g,0,none⟩) 1 cap,.int .i64 last] 56))
  (hal:w3.heap[g]? =some (.cells (alC [120] k x rn (.slice la ln lc) wi n d (.slice aa an ac) 10 5 1 0 0++rest) 63))
  (r1:Ru.RV (b+1) Wr Ru.rl4 (Ru.rx k x rn (.slice la ln lc) wi n d (.slice aa an ac))) (r2:La.Ex b Wr w3) (r3:b < Wr.heap.size) (r4:Wr.heap.size≤g)
  (h4:Below w3.heap.size w3 w4) (h5:La.Ex r w4 w5) (hg:Ri.Rg r r 2 [10] [(oneS 5,u)] 0 tv sv w5):FX r b g cap k x rn la ln lc wi n d aa an ac 1 0 0 last rest w w5:=by
 have s2:=r2.size
 have s4:=h4.size
 have s3:=h3.size
 refine ⟨⟨u,tv,sv,hg⟩,Ex_at' h5 (by omega) (Ru.h_at hbd h4),Ex_at' h5 (by omega) (Ru.h_at hal h4),⟨Wr,r1,r3,r4,fun j hj hl=>?_⟩,?_,hr⟩
 ·rw [h5.block j (by omega) (by omega),h4.block j (by omega),r2.block j hl (by omega)]
 ·exact (bt h3 h4).trans (h5.below (B:=w.heap.size) hr.1 (by omega))
theorem three_app {W:World} {g:Nat} {x y z:Value} {rs:Array Value} {t:TypeId} (h:W.heap[g]? =some (.cells (#[x,y,z]++rs) t)):W.cell? ⟨g,0,none⟩=some x∧W.cell? ⟨g,1,none⟩=some y∧W.cell? ⟨g,2,none⟩=some z:=by
 refine ⟨?_,?_,?_⟩ <;> (simp [World.cell?,h];exact app_at rfl)
theorem fixed_al (w:World) (he:Ru.Env w):Calls Tryz.prog 4 #[] w fun e w'=>e=.returned (.bool true)∧Below w.heap.size w w':=by
 have HN:Hid (Calls Tryz.prog 10 #[.int .i64 2] w fun e w'=>e=.returned (.tuple #[.pointer (some ⟨w.heap.size,0,none⟩),.int .i64 0])∧w'=w.alloc (.cells #[.int .i64 2,.slice none 0 0,.slice none 0 0,.int .i64 0] 72)):=Ri.rnew_any 2 (by omega) (by omega) w
 obtain ⟨W1,hW1⟩:∃ W1,W1=w.alloc (.cells #[.int .i64 2,.slice none 0 0,.slice none 0 0,.int .i64 0] 72):=⟨_,rfl⟩
 have hg1:Ri.Rg w.heap.size w.heap.size 2 [] [] 0 (.slice none 0 0) (.slice none 0 0) W1:=by rw [hW1];exact Ri.Rg.new w 2 (by omega) (by omega)
 have hb1:Below w.heap.size w W1:=by rw [hW1];exact bel1 _ _
 have hs1:W1.heap.size=w.heap.size+1:=by rw [hW1];simp
 obtain ⟨W2,hW2⟩:∃ W2,W2=W1.alloc (.cells (spG #[40,116,111,116,97,108,40,99,44,32,49,48,48,48,41,32,62,32,52,41] 10 5) 29):=⟨_,rfl⟩
 have hb2:Below W1.heap.size W1 W2:=by rw [hW2];exact bel1 _ _
 have hp2:W2.heap[W1.heap.size]? =some (.cells (spG #[40,116,111,116,97,108,40,99,44,32,49,48,48,48,41,32,62,32,52,41] 10 5) 29):=by rw [hW2];exact new_1 _ _
 have hs2:W2.heap.size=w.heap.size+2:=by rw [hW2];simp [hs1]
 have HNw:Hid (Calls Tryz.prog 5 #[.slice (some ⟨W1.heap.size,0,none⟩) 1 1] W2 fun e w'=>NewG Ru.rl4 10 5 W2 e w'):=new_g _ Ru.rl4 Ru.parse4 Ru.type4 _ 10 5 (by decide) (by decide) (by decide) (by decide) W2 (he.below (bt hb1 hb2)) hp2
 have HO:Hid (∀ W,Calls Tryz.prog 12 #[.int .u64 5] W fun e w'=>∃ v,e=.returned v∧SnAt w' (oneS 5) v∧Below W.heap.size W w'):=fun W=>Ri.one23_any 5 (by decide) W
 have HG2:=hid_of (hg1.below hb2)
 have HB2:=hid_of (bt hb1 hb2)
 have HS2:=hid_of hs2
 have HW1:=hid_of hW1
 have HW2:=hid_of hW2
 have HKd:=hid_of he.kd
 clear hW1 hg1 hb1 hs1 hW2 hb2 hp2 hs2 he
 go_enter Tryz.func4,Tryz.ntmps4
 go_wp2_with fail
 refine Calls.mono HN.out ?_
 rintro e w1 ⟨rfl,hw1⟩
 rw [← HW1.out] at hw1
 subst hw1
 clear HN
 go_wp2_with fail
 rw [← HW2.out]
 refine Calls.mono HNw.out ?_
 rintro e w3 hq
 obtain ⟨⟨b,g,cap,k,x,rn,la,ln,lc,wi,n,d,aa,an,ac,rfl,hbd,hlb,⟨rest,hbg,hal⟩,Wr,r1,r2,r3,r4⟩,hb3⟩:=hq
 have HG3:=hid_of (HG2.out.below hb3)
 have HB3:=hid_of (bt HB2.out hb3)
 have HLe:Hid (w.heap.size≤w.heap.size∧w.heap.size < b):=⟨Nat.le_refl _,by have:=HS2.out;omega⟩
 have Hbd:=hid_of hbd
 have Hal:=hid_of hal
 have Hr:=hid_of (⟨r1,r2,r3,r4⟩:_∧_∧_∧_)
 clear hbd hlb hbg hal r1 r2 r3 r4 hb3 HNw HW2 HW1 HG2 HB2 HS2
 go_wp2_with fail
 refine Calls.mono (HO.out _) ?_
 rintro e w4 ⟨v,rfl,hv,hb4⟩
 have HP:Hid (Calls Tryz.prog 11 #[.pointer (some ⟨w.heap.size,0,none⟩),.int .i64 10,v] w4 fun e w'=>e=.returned (.int .i64 0)∧FX w.heap.size b g cap k x rn la ln lc wi n d aa an ac 1 0 0 (-4611686018427387905) rest w w'):=(Ri.push_e w.heap.size 10 5 v w4 (by decide) (HG3.out.below hb4) hv).mono (by
  rintro e w5 ⟨rfl,u,tv,sv,h1,h2⟩
  exact ⟨rfl,FX.made HLe.out HB3.out Hbd.out Hal.out Hr.out.1 Hr.out.2.1 Hr.out.2.2.1 Hr.out.2.2.2 hb4 h2 h1⟩)
 clear hv hb4 HG3 HB3 HLe Hbd Hal Hr HO
 go_wp2_with fail
 refine Calls.mono HP.out ?_
 rintro e w5 ⟨rfl,h5⟩
 have HF5:=hid_of h5
 have HS5:=hid_of (h5.step20 HKd.out)
 clear h5 HP
 go_wp2_with fail
 refine Calls.mono HS5.out ?_
 rintro e w6 h6
 have HF6:=hid_of (HF5.out.step h6)
 have HS6:=hid_of (HF6.out.step30 HKd.out)
 obtain ⟨⟨c1,q1,rs1,rfl,hl1,hc1⟩,-⟩:=h6
 have HLt:Hid (b < c1∧g < c1):=⟨by have:=(Array.getElem?_eq_some_iff.1 HF5.out.bd).1;omega,by have:=(Array.getElem?_eq_some_iff.1 HF5.out.al).1;omega⟩
 have HC1:=hid_of hc1
 clear HF5 HS5 hc1
 go_wp2_with fail
 refine Calls.mono HS6.out ?_
 rintro e w7 h7
 have HF7:=hid_of (HF6.out.step h7)
 obtain ⟨⟨c2,q2,rs2,rfl,hl2,hc2⟩,-,-,-,-,-,-,h8⟩:=h7
 have hc1':=(h8 c1 (Array.getElem?_eq_some_iff.1 HC1.out).1 (by have:=HLt.out;omega) (by have:=HLt.out;omega)).trans HC1.out
 obtain ⟨x0,x1,x2⟩:=three_app hc1'
 obtain ⟨y0,y1,y2⟩:=three_app hc2
 clear h8 hc1' hc2 hl1 hl2 HC1 HF6 HS6 HLt
 go_wp2_with fail
 go_ret
 exact ⟨rfl,HF7.out.bel⟩
end Go.Proofs.YtlgkfeeclgcgbaaGreatDoor.Al
