/- THE PAGE: histogram. Own work of the verifier. -/
import Derived.Test.YtfkbjdgbpenflaaGreatDoorWBT
set_option maxRecDepth 100000
set_option maxHeartbeats 2000000
namespace Go.Proofs.YtfkbjdgbpenflaaGreatDoor
open Go.RowKit Me
abbrev suE:List UInt8:=[95,115,117,109]
abbrev coE:List UInt8:=[95,99,111,117,110,116]
abbrev inN:List UInt8:=[43,73,110,102]
def hgL (P:Nat) (x:Vl):List (List UInt8):=bkL x.d P 0 x.cs++[seT x.d buE [(leN,inN)] (Lib.decDigits x.n),seT x.d suE [] (Lib.itoa x.t),seT x.d coE [] (Lib.decDigits x.n)]
theorem wrL_three (T a b c:List UInt8):wrL T [a,b,c]=if fitB (T++a) then (if fitB (T++a++b) then (T++a++b++c,fitB (T++a++b++c)) else (T++a++b,false)) else (T++a,false):=by
 have e:=wrL_two (T++a) b c
 rw [wrL]
 split
 ·exact e
 ·rfl
theorem hist_any (u:World) (pb P:Nat) (T0:List UInt8) (x:Vl) (lv cv:Value) (w:World) (h:Pg u pb w (P:Int) T0 w) (ht:Wi.Tab u) (hl:SLb u lv x.d.labels) (hc:SN u cv x.cs) (hs:Sho x.d []) (hn:x.d.labels.length≤16) (hx:VW x) (hM:MayIs (P:Int) x.cs 0) (hT:fitB T0=true) :
  Calls Tryz.prog 49 #[.pointer (some ⟨pb,0,none⟩),vx x lv cv] w fun e w'=>e=.returned (.bool (wrL T0 (hgL P x)).2)∧Pg u pb w (P:Int) (wrL T0 (hgL P x)).1 w':=by
 have hlv:=hl
 have hcv:=hc
 obtain ⟨ao,cap,rfl⟩:=hl.form
 obtain ⟨co,ccap,rfl⟩:=SN.form hc
 obtain ⟨W0,hW0⟩:∃ W0,W0=w.alloc (.cells (vc x (.slice ao x.d.labels.length cap) (.slice co x.cs.length ccap)) 45):=⟨_,rfl⟩
 have hN0:W0.heap[w.heap.size]? =some (.cells (vc x (.slice ao x.d.labels.length cap) (.slice co x.cs.length ccap)) 45):=by rw [hW0];exact new_1 w _
 have hP0:Pg u pb w (P:Int) T0 W0:=by rw [hW0];exact h.alloc _
 have hne:w.heap.size≠pb:=by have:=h.lt;omega
 have HI0:Hid (BI u pb w.heap.size W0 (P:Int) x (.slice ao x.d.labels.length cap) (.slice co x.cs.length ccap) T0 W0):=⟨hP0.re,hN0⟩
 have H1:Hid (∀ W,BI u pb w.heap.size W0 (P:Int) x (.slice ao x.d.labels.length cap) (.slice co x.cs.length ccap) T0 W→Calls Tryz.prog 84 #[.pointer (some ⟨pb,0,none⟩),vx x (.slice ao x.d.labels.length cap) (.slice co x.cs.length ccap)] W fun e w'=>e=.returned (.bool (wrL T0 (bkL x.d P 0 x.cs)).2)∧BI u pb w.heap.size W0 (P:Int) x (.slice ao x.d.labels.length cap) (.slice co x.cs.length ccap) (wrL T0 (bkL x.d P 0 x.cs)).1 w'):=fun W k=>by
  refine Calls.mono (buckets_any u pb P T0 x _ _ W k.pg.re ht hlv hcv hs hn hx hM hT) ?_
  rintro e w' ⟨rfl,q⟩
  exact ⟨rfl,k.then q hne⟩
 have H2:Hid (∀ T W,fitB T=true→BI u pb w.heap.size W0 (P:Int) x (.slice ao x.d.labels.length cap) (.slice co x.cs.length ccap) T W→Calls Tryz.prog 85 #[.pointer (some ⟨pb,0,none⟩),dsV x.d (.slice ao x.d.labels.length cap),.string ⟨#[43,73,110,102]⟩,.int .u64 (x.n:Int)] W fun e w'=>e=.returned (.bool (fitB (T++seT x.d buE [(leN,inN)] (Lib.decDigits x.n))))∧BI u pb w.heap.size W0 (P:Int) x (.slice ao x.d.labels.length cap) (.slice co x.cs.length ccap) (T++seT x.d buE [(leN,inN)] (Lib.decDigits x.n)) w'):=fun T W hf k=>by
  refine Calls.mono (bucket_any u pb (P:Int) T x.d _ inN x.n W k.pg.re ht hlv (sho_le hs inN (by decide) hn) hx.n hf) ?_
  rintro e w' ⟨rfl,q⟩
  exact ⟨rfl,k.then q hne⟩
 have H3p:Hid (∀ T W,BI u pb w.heap.size W0 (P:Int) x (.slice ao x.d.labels.length cap) (.slice co x.cs.length ccap) T W→Calls Tryz.prog 83 #[.agg #[.int .i64 (hiOf x.t),.int .u64 (loOf x.t)]] W fun e w'=>e=.returned (.string ⟨(Lib.itoa x.t).toArray⟩)∧Below W.heap.size W w'):=fun T W k=>by
  have q:=Wi.print_any _ _ (wf_of hx.t) W (ht.below k.pg.st)
  rw [val_hl] at q
  exact q
 have H3:Hid (∀ T W,fitB T=true→BI u pb w.heap.size W0 (P:Int) x (.slice ao x.d.labels.length cap) (.slice co x.cs.length ccap) T W→Calls Tryz.prog 82 #[.pointer (some ⟨pb,0,none⟩),dsV x.d (.slice ao x.d.labels.length cap),.string ⟨#[95,115,117,109]⟩,.string ⟨(Lib.itoa x.t).toArray⟩,.slice none 0 0] W fun e w'=>e=.returned (.bool (fitB (T++seT x.d suE [] (Lib.itoa x.t))))∧BI u pb w.heap.size W0 (P:Int) x (.slice ao x.d.labels.length cap) (.slice co x.cs.length ccap) (T++seT x.d suE [] (Lib.itoa x.t)) w'):=fun T W hf k=>by
  refine Calls.mono (series_any u pb (P:Int) T x.d _ _ suE (Lib.itoa x.t) [] W k.pg.re hlv (Or.inl ⟨rfl,rfl⟩) hs (by decide) (by have:=itoa_len hx.t;omega) (by have:=fit_len hf;omega)) ?_
  rintro e w' ⟨rfl,q⟩
  exact ⟨rfl,k.then q hne⟩
 have H4:Hid (∀ T W,fitB T=true→BI u pb w.heap.size W0 (P:Int) x (.slice ao x.d.labels.length cap) (.slice co x.cs.length ccap) T W→Calls Tryz.prog 86 #[.pointer (some ⟨pb,0,none⟩),vx x (.slice ao x.d.labels.length cap) (.slice co x.cs.length ccap)] W fun e w'=>e=.returned (.bool (fitB (T++seT x.d coE [] (Lib.decDigits x.n))))∧BI u pb w.heap.size W0 (P:Int) x (.slice ao x.d.labels.length cap) (.slice co x.cs.length ccap) (T++seT x.d coE [] (Lib.decDigits x.n)) w'):=fun T W hf k=>by
  refine Calls.mono (count_any u pb (P:Int) T x _ _ W k.pg.re ht hlv hcv hs hx hf) ?_
  rintro e w' ⟨rfl,q⟩
  exact ⟨rfl,k.then q hne⟩
 have HKq:Hid (∀ X W,BI u pb w.heap.size W0 (P:Int) x (.slice ao x.d.labels.length cap) (.slice co x.cs.length ccap) X W→cB w.heap.size x (.slice ao x.d.labels.length cap) (.slice co x.cs.length ccap) W):=fun X W k=>cB_of k.bx
 have HW0:=hid_of hW0
 have HP0:=hid_of hP0
 have hft:=wrL_fit (bkL x.d P 0 x.cs) T0 hT
 clear h ht hl hlv hc hcv hs hn hx hM hT hW0 hN0 hP0 hne
 unfold hgL
 rw [wrL_app]
 by_cases hA:(wrL T0 (bkL x.d P 0 x.cs)).2=true
 ·have hf1:=hft hA
  rw [hA] at H1 ⊢
  have hwt:=wrL_three (wrL T0 (bkL x.d P 0 x.cs)).1 (seT x.d buE [(leN,inN)] (Lib.decDigits x.n)) (seT x.d suE [] (Lib.itoa x.t)) (seT x.d coE [] (Lib.decDigits x.n))
  simp only [if_true]
  rw [hwt]
  replace H2:=hid_of (fun W=>H2.out (wrL T0 (bkL x.d P 0 x.cs)).1 W hf1)
  clear hwt hft hA hf1
  generalize (wrL T0 (bkL x.d P 0 x.cs)).1=T1 at *
  by_cases hB:fitB (T1++seT x.d buE [(leN,inN)] (Lib.decDigits x.n))=true
  ·replace H3:=hid_of (fun W=>H3.out (T1++seT x.d buE [(leN,inN)] (Lib.decDigits x.n)) W hB)
   rw [hB] at H2 ⊢
   simp only [if_true]
   clear hB
   generalize T1++seT x.d buE [(leN,inN)] (Lib.decDigits x.n)=T2 at *
   by_cases hC:fitB (T2++seT x.d suE [] (Lib.itoa x.t))=true
   ·replace H4:=hid_of (fun W=>H4.out (T2++seT x.d suE [] (Lib.itoa x.t)) W hC)
    rw [hC] at H3 ⊢
    simp only [if_true]
    clear hC
    generalize T2++seT x.d suE [] (Lib.itoa x.t)=T3 at *
    generalize T3++seT x.d coE [] (Lib.decDigits x.n)=T4 at *
    generalize Lib.itoa x.t=D at *
    go_enter Tryz.func49,Tryz.ntmps49
    go_upto_region 1 with fail
    rw [← HW0.out]
    clear HW0
    refine wp_region_held_drew (S:=fun W=>cB w.heap.size x (.slice ao x.d.labels.length cap) (.slice co x.cs.length ccap) W) (by kernel_rfl) (HKq.out _ _ (HI0.out.below (belD (Below.refl _ _)))) (fun hHeld=>?_)
    refine wpAnyH_take (i:=0) (v:=?va0) rfl (by kernel_rfl) (by kernel_rfl) (by kernel_rfl) (fun _ _ _ h=>h) (Or.inl ⟨by rfl,?hya0⟩) hHeld ?resta0
    case hya0=>(intro w hSw;(try dsimp only at hSw);go_simp;try with_reducible rfl)
    try simp only [Act.put,List.getElem_cons_zero,List.getElem_toArray,List.setIfInBounds_toArray,List.set_cons_zero,List.set_cons_succ]
    refine wpAnyH_take (i:=1) (v:=?va1) rfl (by kernel_rfl) (by kernel_rfl) (by kernel_rfl) (fun _ _ _ h=>h) (Or.inl ⟨by rfl,?hya1⟩) hHeld ?resta1
    case hya1=>(intro w hSw;(try dsimp only at hSw);go_simp;try with_reducible rfl)
    try simp only [Act.put,List.getElem_cons_succ,List.getElem_cons_zero,List.getElem_toArray,List.setIfInBounds_toArray,List.set_cons_zero,List.set_cons_succ]
    refine wpAnyH_ready (rs:=[2]) (by kernel_rfl) (by simp) ?_
    refine AllReadyH.cons rfl (fun K hK=>?_) AllReadyH.nil
    go_simp
    refine Calls.mono (H1.out _ (HI0.out.below (belD (Below.refl _ _)))) ?_
    rintro e wa ⟨rfl,hwa⟩
    go_wp2_with fail
    refine hK.out _ _ ?_ (fun hHeld=>?_)
    ·exact HKq.out _ _ hwa
    clear hK K
    try simp only [Act.put,List.getElem_cons_succ,List.getElem_cons_zero,List.getElem_toArray,List.setIfInBounds_toArray,List.set_cons_zero,List.set_cons_succ]
    refine wpAnyH_take (i:=3) (v:=?va3) rfl (by kernel_rfl) (by kernel_rfl) (by kernel_rfl) (fun _ _ _ h=>h) (Or.inl ⟨by rfl,?hya3⟩) hHeld ?resta3
    case hya3=>(intro w hSw;(try dsimp only at hSw);go_simp;try with_reducible rfl)
    try simp only [Act.put,List.getElem_cons_succ,List.getElem_cons_zero,List.getElem_toArray,List.setIfInBounds_toArray,List.set_cons_zero,List.set_cons_succ]
    refine wpAnyH_take (i:=4) (v:=?va4) rfl (by kernel_rfl) (by kernel_rfl) (by kernel_rfl) (fun _ _ _ h=>h) (Or.inl ⟨by rfl,?hya4⟩) hHeld ?resta4
    case hya4=>(intro w hSw;(try dsimp only at hSw);go_simp;try with_reducible rfl)
    try simp only [Act.put,List.getElem_cons_succ,List.getElem_cons_zero,List.getElem_toArray,List.setIfInBounds_toArray,List.set_cons_zero,List.set_cons_succ]
    refine wpAnyH_take (i:=5) (v:=?va5) rfl (by kernel_rfl) (by kernel_rfl) (by kernel_rfl) (fun _ _ _ h=>h) (Or.inl ⟨by rfl,?hya5⟩) hHeld ?resta5
    case hya5=>(intro w hSw;(try dsimp only at hSw);go_simp;try with_reducible rfl)
    try simp only [Act.put,List.getElem_cons_succ,List.getElem_cons_zero,List.getElem_toArray,List.setIfInBounds_toArray,List.set_cons_zero,List.set_cons_succ]
    refine wpAnyH_take (i:=6) (v:=?va6) rfl (by kernel_rfl) (by kernel_rfl) (by kernel_rfl) (fun _ _ _ h=>h) (Or.inl ⟨by rfl,?hya6⟩) hHeld ?resta6
    case hya6=>(intro w hSw;(try dsimp only at hSw);go_simp;try with_reducible rfl)
    try simp only [Act.put,List.getElem_cons_succ,List.getElem_cons_zero,List.getElem_toArray,List.setIfInBounds_toArray,List.set_cons_zero,List.set_cons_succ]
    refine wpAnyH_take (i:=7) (v:=?va7) rfl (by kernel_rfl) (by kernel_rfl) (by kernel_rfl) (fun _ _ _ h=>h) (Or.inl ⟨by rfl,?hya7⟩) hHeld ?resta7
    case hya7=>(intro w hSw;(try dsimp only at hSw);go_simp;try with_reducible rfl)
    try simp only [Act.put,List.getElem_cons_succ,List.getElem_cons_zero,List.getElem_toArray,List.setIfInBounds_toArray,List.set_cons_zero,List.set_cons_succ]
    refine wpAnyH_take (i:=8) (v:=?va8) rfl (by kernel_rfl) (by kernel_rfl) (by kernel_rfl) (fun _ _ _ h=>h) (Or.inl ⟨by rfl,?hya8⟩) hHeld ?resta8
    case hya8=>(intro w hSw;(try dsimp only at hSw);go_simp;try with_reducible rfl)
    try simp only [Act.put,List.getElem_cons_succ,List.getElem_cons_zero,List.getElem_toArray,List.setIfInBounds_toArray,List.set_cons_zero,List.set_cons_succ]
    refine wpAnyH_ready (rs:=[9]) (by kernel_rfl) (by simp) ?_
    refine AllReadyH.cons rfl (fun K hK=>?_) AllReadyH.nil
    go_simp
    refine Calls.mono (H2.out _ hwa) ?_
    rintro e wb ⟨rfl,hwb⟩
    go_wp2_with fail
    refine hK.out _ _ ?_ (fun hHeld=>?_)
    ·exact HKq.out _ _ hwb
    clear hK K
    try simp only [Act.put,List.getElem_cons_succ,List.getElem_cons_zero,List.getElem_toArray,List.setIfInBounds_toArray,List.set_cons_zero,List.set_cons_succ]
    refine wpAnyH_take (i:=10) (v:=?va10) rfl (by kernel_rfl) (by kernel_rfl) (by kernel_rfl) (fun _ _ _ h=>h) (Or.inl ⟨by rfl,?hya10⟩) hHeld ?resta10
    case hya10=>(intro w hSw;(try dsimp only at hSw);go_simp;try with_reducible rfl)
    try simp only [Act.put,List.getElem_cons_succ,List.getElem_cons_zero,List.getElem_toArray,List.setIfInBounds_toArray,List.set_cons_zero,List.set_cons_succ]
    refine wpAnyH_take (i:=11) (v:=?va11) rfl (by kernel_rfl) (by kernel_rfl) (by kernel_rfl) (fun _ _ _ h=>h) (Or.inl ⟨by rfl,?hya11⟩) hHeld ?resta11
    case hya11=>(intro w hSw;(try dsimp only at hSw);go_simp;try with_reducible rfl)
    try simp only [Act.put,List.getElem_cons_succ,List.getElem_cons_zero,List.getElem_toArray,List.setIfInBounds_toArray,List.set_cons_zero,List.set_cons_succ]
    refine wpAnyH_take (i:=12) (v:=?va12) rfl (by kernel_rfl) (by kernel_rfl) (by kernel_rfl) (fun _ _ _ h=>h) (Or.inl ⟨by rfl,?hya12⟩) hHeld ?resta12
    case hya12=>(intro w hSw;(try dsimp only at hSw);go_simp;try with_reducible rfl)
    try simp only [Act.put,List.getElem_cons_succ,List.getElem_cons_zero,List.getElem_toArray,List.setIfInBounds_toArray,List.set_cons_zero,List.set_cons_succ]
    refine wpAnyH_take (i:=13) (v:=?va13) rfl (by kernel_rfl) (by kernel_rfl) (by kernel_rfl) (fun _ _ _ h=>h) (Or.inl ⟨by rfl,?hya13⟩) hHeld ?resta13
    case hya13=>(intro w hSw;(try dsimp only at hSw);go_simp;try with_reducible rfl)
    try simp only [Act.put,List.getElem_cons_succ,List.getElem_cons_zero,List.getElem_toArray,List.setIfInBounds_toArray,List.set_cons_zero,List.set_cons_succ]
    refine wpAnyH_take (i:=14) (v:=?va14) rfl (by kernel_rfl) (by kernel_rfl) (by kernel_rfl) (fun _ _ _ h=>h) (Or.inl ⟨by rfl,?hya14⟩) hHeld ?resta14
    case hya14=>(intro w hSw;(try dsimp only at hSw);go_simp;try with_reducible rfl)
    try simp only [Act.put,List.getElem_cons_succ,List.getElem_cons_zero,List.getElem_toArray,List.setIfInBounds_toArray,List.set_cons_zero,List.set_cons_succ]
    refine wpAnyH_take (i:=15) (v:=?va15) rfl (by kernel_rfl) (by kernel_rfl) (by kernel_rfl) (fun _ _ _ h=>h) (Or.inl ⟨by rfl,?hya15⟩) hHeld ?resta15
    case hya15=>(intro w hSw;(try dsimp only at hSw);go_simp;try with_reducible rfl)
    try simp only [Act.put,List.getElem_cons_succ,List.getElem_cons_zero,List.getElem_toArray,List.setIfInBounds_toArray,List.set_cons_zero,List.set_cons_succ]
    refine wpAnyH_take (i:=16) (v:=?va16) rfl (by kernel_rfl) (by kernel_rfl) (by kernel_rfl) (fun _ _ _ h=>h) (Or.inl ⟨by rfl,?hya16⟩) hHeld ?resta16
    case hya16=>(intro w hSw;(try dsimp only at hSw);go_simp;try with_reducible rfl)
    try simp only [Act.put,List.getElem_cons_succ,List.getElem_cons_zero,List.getElem_toArray,List.setIfInBounds_toArray,List.set_cons_zero,List.set_cons_succ]
    refine wpAnyH_ready (rs:=[17]) (by kernel_rfl) (by simp) ?_
    refine AllReadyH.cons rfl (fun K hK=>?_) AllReadyH.nil
    go_simp
    refine Calls.mono (H3p.out _ _ hwb) ?_
    rintro e wc ⟨rfl,hbc⟩
    have hwc:=hwb.below hbc
    go_wp2_with fail
    refine hK.out _ _ ?_ (fun hHeld=>?_)
    ·exact HKq.out _ _ hwc
    clear hK K
    try simp only [Act.put,List.getElem_cons_succ,List.getElem_cons_zero,List.getElem_toArray,List.setIfInBounds_toArray,List.set_cons_zero,List.set_cons_succ]
    refine wpAnyH_ready (rs:=[18]) (by kernel_rfl) (by simp) ?_
    refine AllReadyH.cons rfl (fun K hK=>?_) AllReadyH.nil
    go_simp
    refine Calls.mono (H3.out _ hwc) ?_
    rintro e wd ⟨rfl,hwd⟩
    go_wp2_with fail
    refine hK.out _ _ ?_ (fun hHeld=>?_)
    ·exact HKq.out _ _ hwd
    clear hK K
    try simp only [Act.put,List.getElem_cons_succ,List.getElem_cons_zero,List.getElem_toArray,List.setIfInBounds_toArray,List.set_cons_zero,List.set_cons_succ]
    refine wpAnyH_take (i:=19) (v:=?va19) rfl (by kernel_rfl) (by kernel_rfl) (by kernel_rfl) (fun _ _ _ h=>h) (Or.inl ⟨by rfl,?hya19⟩) hHeld ?resta19
    case hya19=>(intro w hSw;(try dsimp only at hSw);go_simp;try with_reducible rfl)
    try simp only [Act.put,List.getElem_cons_succ,List.getElem_cons_zero,List.getElem_toArray,List.setIfInBounds_toArray,List.set_cons_zero,List.set_cons_succ]
    refine wpAnyH_take (i:=20) (v:=?va20) rfl (by kernel_rfl) (by kernel_rfl) (by kernel_rfl) (fun _ _ _ h=>h) (Or.inl ⟨by rfl,?hya20⟩) hHeld ?resta20
    case hya20=>(intro w hSw;(try dsimp only at hSw);go_simp;try with_reducible rfl)
    try simp only [Act.put,List.getElem_cons_succ,List.getElem_cons_zero,List.getElem_toArray,List.setIfInBounds_toArray,List.set_cons_zero,List.set_cons_succ]
    refine wpAnyH_take (i:=21) (v:=?va21) rfl (by kernel_rfl) (by kernel_rfl) (by kernel_rfl) (fun _ _ _ h=>h) (Or.inl ⟨by rfl,?hya21⟩) hHeld ?resta21
    case hya21=>(intro w hSw;(try dsimp only at hSw);go_simp;try with_reducible rfl)
    try simp only [Act.put,List.getElem_cons_succ,List.getElem_cons_zero,List.getElem_toArray,List.setIfInBounds_toArray,List.set_cons_zero,List.set_cons_succ]
    refine wpAnyH_take (i:=22) (v:=?va22) rfl (by kernel_rfl) (by kernel_rfl) (by kernel_rfl) (fun _ _ _ h=>h) (Or.inl ⟨by rfl,?hya22⟩) hHeld ?resta22
    case hya22=>(intro w hSw;(try dsimp only at hSw);go_simp;try with_reducible rfl)
    try simp only [Act.put,List.getElem_cons_succ,List.getElem_cons_zero,List.getElem_toArray,List.setIfInBounds_toArray,List.set_cons_zero,List.set_cons_succ]
    refine wpAnyH_ready (rs:=[23]) (by kernel_rfl) (by simp) ?_
    refine AllReadyH.cons rfl (fun K hK=>?_) AllReadyH.nil
    go_simp
    refine Calls.mono (H4.out _ hwd) ?_
    rintro e we ⟨rfl,hwe⟩
    go_wp2_with fail
    refine hK.out _ _ ?_ (fun hHeld=>?_)
    ·exact HKq.out _ _ hwe
    clear hK K
    try simp only [Act.put,List.getElem_cons_succ,List.getElem_cons_zero,List.getElem_toArray,List.setIfInBounds_toArray,List.set_cons_zero,List.set_cons_succ]
    refine wpAnyH_take (i:=24) (v:=?va24) rfl (by kernel_rfl) (by kernel_rfl) (by kernel_rfl) (fun _ _ _ h=>h) (Or.inl ⟨by rfl,?hya24⟩) hHeld ?resta24
    case hya24=>(intro w hSw;(try dsimp only at hSw);go_simp;try with_reducible rfl)
    try simp only [Act.put,List.getElem_cons_succ,List.getElem_cons_zero,List.getElem_toArray,List.setIfInBounds_toArray,List.set_cons_zero,List.set_cons_succ]
    refine wpAnyH_take (i:=25) (v:=?va25) rfl (by kernel_rfl) (by kernel_rfl) (by kernel_rfl) (fun _ _ _ h=>h) (Or.inl ⟨by rfl,?hya25⟩) hHeld ?resta25
    case hya25=>(intro w hSw;(try dsimp only at hSw);go_simp;try with_reducible rfl)
    try simp only [Act.put,List.getElem_cons_succ,List.getElem_cons_zero,List.getElem_toArray,List.setIfInBounds_toArray,List.set_cons_zero,List.set_cons_succ]
    refine wpAnyH_done (by kernel_rfl) ?_ _
    go_wp2_with fail
    go_ret
    exact ⟨rfl,HP0.out.then hwe.pg⟩
   ·simp only [Bool.not_eq_true] at hC
    rw [hC] at H3 ⊢
    simp only [Bool.false_eq_true,if_false]
    clear hC H4
    generalize T2++seT x.d suE [] (Lib.itoa x.t)=T3 at *
    generalize Lib.itoa x.t=D at *
    go_enter Tryz.func49,Tryz.ntmps49
    go_upto_region 1 with fail
    rw [← HW0.out]
    clear HW0
    refine wp_region_held_drew (S:=fun W=>cB w.heap.size x (.slice ao x.d.labels.length cap) (.slice co x.cs.length ccap) W) (by kernel_rfl) (HKq.out _ _ (HI0.out.below (belD (Below.refl _ _)))) (fun hHeld=>?_)
    refine wpAnyH_take (i:=0) (v:=?vb0) rfl (by kernel_rfl) (by kernel_rfl) (by kernel_rfl) (fun _ _ _ h=>h) (Or.inl ⟨by rfl,?hyb0⟩) hHeld ?restb0
    case hyb0=>(intro w hSw;(try dsimp only at hSw);go_simp;try with_reducible rfl)
    try simp only [Act.put,List.getElem_cons_zero,List.getElem_toArray,List.setIfInBounds_toArray,List.set_cons_zero,List.set_cons_succ]
    refine wpAnyH_take (i:=1) (v:=?vb1) rfl (by kernel_rfl) (by kernel_rfl) (by kernel_rfl) (fun _ _ _ h=>h) (Or.inl ⟨by rfl,?hyb1⟩) hHeld ?restb1
    case hyb1=>(intro w hSw;(try dsimp only at hSw);go_simp;try with_reducible rfl)
    try simp only [Act.put,List.getElem_cons_succ,List.getElem_cons_zero,List.getElem_toArray,List.setIfInBounds_toArray,List.set_cons_zero,List.set_cons_succ]
    refine wpAnyH_ready (rs:=[2]) (by kernel_rfl) (by simp) ?_
    refine AllReadyH.cons rfl (fun K hK=>?_) AllReadyH.nil
    go_simp
    refine Calls.mono (H1.out _ (HI0.out.below (belD (Below.refl _ _)))) ?_
    rintro e wa ⟨rfl,hwa⟩
    go_wp2_with fail
    refine hK.out _ _ ?_ (fun hHeld=>?_)
    ·exact HKq.out _ _ hwa
    clear hK K
    try simp only [Act.put,List.getElem_cons_succ,List.getElem_cons_zero,List.getElem_toArray,List.setIfInBounds_toArray,List.set_cons_zero,List.set_cons_succ]
    refine wpAnyH_take (i:=3) (v:=?vb3) rfl (by kernel_rfl) (by kernel_rfl) (by kernel_rfl) (fun _ _ _ h=>h) (Or.inl ⟨by rfl,?hyb3⟩) hHeld ?restb3
    case hyb3=>(intro w hSw;(try dsimp only at hSw);go_simp;try with_reducible rfl)
    try simp only [Act.put,List.getElem_cons_succ,List.getElem_cons_zero,List.getElem_toArray,List.setIfInBounds_toArray,List.set_cons_zero,List.set_cons_succ]
    refine wpAnyH_take (i:=4) (v:=?vb4) rfl (by kernel_rfl) (by kernel_rfl) (by kernel_rfl) (fun _ _ _ h=>h) (Or.inl ⟨by rfl,?hyb4⟩) hHeld ?restb4
    case hyb4=>(intro w hSw;(try dsimp only at hSw);go_simp;try with_reducible rfl)
    try simp only [Act.put,List.getElem_cons_succ,List.getElem_cons_zero,List.getElem_toArray,List.setIfInBounds_toArray,List.set_cons_zero,List.set_cons_succ]
    refine wpAnyH_take (i:=5) (v:=?vb5) rfl (by kernel_rfl) (by kernel_rfl) (by kernel_rfl) (fun _ _ _ h=>h) (Or.inl ⟨by rfl,?hyb5⟩) hHeld ?restb5
    case hyb5=>(intro w hSw;(try dsimp only at hSw);go_simp;try with_reducible rfl)
    try simp only [Act.put,List.getElem_cons_succ,List.getElem_cons_zero,List.getElem_toArray,List.setIfInBounds_toArray,List.set_cons_zero,List.set_cons_succ]
    refine wpAnyH_take (i:=6) (v:=?vb6) rfl (by kernel_rfl) (by kernel_rfl) (by kernel_rfl) (fun _ _ _ h=>h) (Or.inl ⟨by rfl,?hyb6⟩) hHeld ?restb6
    case hyb6=>(intro w hSw;(try dsimp only at hSw);go_simp;try with_reducible rfl)
    try simp only [Act.put,List.getElem_cons_succ,List.getElem_cons_zero,List.getElem_toArray,List.setIfInBounds_toArray,List.set_cons_zero,List.set_cons_succ]
    refine wpAnyH_take (i:=7) (v:=?vb7) rfl (by kernel_rfl) (by kernel_rfl) (by kernel_rfl) (fun _ _ _ h=>h) (Or.inl ⟨by rfl,?hyb7⟩) hHeld ?restb7
    case hyb7=>(intro w hSw;(try dsimp only at hSw);go_simp;try with_reducible rfl)
    try simp only [Act.put,List.getElem_cons_succ,List.getElem_cons_zero,List.getElem_toArray,List.setIfInBounds_toArray,List.set_cons_zero,List.set_cons_succ]
    refine wpAnyH_take (i:=8) (v:=?vb8) rfl (by kernel_rfl) (by kernel_rfl) (by kernel_rfl) (fun _ _ _ h=>h) (Or.inl ⟨by rfl,?hyb8⟩) hHeld ?restb8
    case hyb8=>(intro w hSw;(try dsimp only at hSw);go_simp;try with_reducible rfl)
    try simp only [Act.put,List.getElem_cons_succ,List.getElem_cons_zero,List.getElem_toArray,List.setIfInBounds_toArray,List.set_cons_zero,List.set_cons_succ]
    refine wpAnyH_ready (rs:=[9]) (by kernel_rfl) (by simp) ?_
    refine AllReadyH.cons rfl (fun K hK=>?_) AllReadyH.nil
    go_simp
    refine Calls.mono (H2.out _ hwa) ?_
    rintro e wb ⟨rfl,hwb⟩
    go_wp2_with fail
    refine hK.out _ _ ?_ (fun hHeld=>?_)
    ·exact HKq.out _ _ hwb
    clear hK K
    try simp only [Act.put,List.getElem_cons_succ,List.getElem_cons_zero,List.getElem_toArray,List.setIfInBounds_toArray,List.set_cons_zero,List.set_cons_succ]
    refine wpAnyH_take (i:=10) (v:=?vb10) rfl (by kernel_rfl) (by kernel_rfl) (by kernel_rfl) (fun _ _ _ h=>h) (Or.inl ⟨by rfl,?hyb10⟩) hHeld ?restb10
    case hyb10=>(intro w hSw;(try dsimp only at hSw);go_simp;try with_reducible rfl)
    try simp only [Act.put,List.getElem_cons_succ,List.getElem_cons_zero,List.getElem_toArray,List.setIfInBounds_toArray,List.set_cons_zero,List.set_cons_succ]
    refine wpAnyH_take (i:=11) (v:=?vb11) rfl (by kernel_rfl) (by kernel_rfl) (by kernel_rfl) (fun _ _ _ h=>h) (Or.inl ⟨by rfl,?hyb11⟩) hHeld ?restb11
    case hyb11=>(intro w hSw;(try dsimp only at hSw);go_simp;try with_reducible rfl)
    try simp only [Act.put,List.getElem_cons_succ,List.getElem_cons_zero,List.getElem_toArray,List.setIfInBounds_toArray,List.set_cons_zero,List.set_cons_succ]
    refine wpAnyH_take (i:=12) (v:=?vb12) rfl (by kernel_rfl) (by kernel_rfl) (by kernel_rfl) (fun _ _ _ h=>h) (Or.inl ⟨by rfl,?hyb12⟩) hHeld ?restb12
    case hyb12=>(intro w hSw;(try dsimp only at hSw);go_simp;try with_reducible rfl)
    try simp only [Act.put,List.getElem_cons_succ,List.getElem_cons_zero,List.getElem_toArray,List.setIfInBounds_toArray,List.set_cons_zero,List.set_cons_succ]
    refine wpAnyH_take (i:=13) (v:=?vb13) rfl (by kernel_rfl) (by kernel_rfl) (by kernel_rfl) (fun _ _ _ h=>h) (Or.inl ⟨by rfl,?hyb13⟩) hHeld ?restb13
    case hyb13=>(intro w hSw;(try dsimp only at hSw);go_simp;try with_reducible rfl)
    try simp only [Act.put,List.getElem_cons_succ,List.getElem_cons_zero,List.getElem_toArray,List.setIfInBounds_toArray,List.set_cons_zero,List.set_cons_succ]
    refine wpAnyH_take (i:=14) (v:=?vb14) rfl (by kernel_rfl) (by kernel_rfl) (by kernel_rfl) (fun _ _ _ h=>h) (Or.inl ⟨by rfl,?hyb14⟩) hHeld ?restb14
    case hyb14=>(intro w hSw;(try dsimp only at hSw);go_simp;try with_reducible rfl)
    try simp only [Act.put,List.getElem_cons_succ,List.getElem_cons_zero,List.getElem_toArray,List.setIfInBounds_toArray,List.set_cons_zero,List.set_cons_succ]
    refine wpAnyH_take (i:=15) (v:=?vb15) rfl (by kernel_rfl) (by kernel_rfl) (by kernel_rfl) (fun _ _ _ h=>h) (Or.inl ⟨by rfl,?hyb15⟩) hHeld ?restb15
    case hyb15=>(intro w hSw;(try dsimp only at hSw);go_simp;try with_reducible rfl)
    try simp only [Act.put,List.getElem_cons_succ,List.getElem_cons_zero,List.getElem_toArray,List.setIfInBounds_toArray,List.set_cons_zero,List.set_cons_succ]
    refine wpAnyH_take (i:=16) (v:=?vb16) rfl (by kernel_rfl) (by kernel_rfl) (by kernel_rfl) (fun _ _ _ h=>h) (Or.inl ⟨by rfl,?hyb16⟩) hHeld ?restb16
    case hyb16=>(intro w hSw;(try dsimp only at hSw);go_simp;try with_reducible rfl)
    try simp only [Act.put,List.getElem_cons_succ,List.getElem_cons_zero,List.getElem_toArray,List.setIfInBounds_toArray,List.set_cons_zero,List.set_cons_succ]
    refine wpAnyH_ready (rs:=[17]) (by kernel_rfl) (by simp) ?_
    refine AllReadyH.cons rfl (fun K hK=>?_) AllReadyH.nil
    go_simp
    refine Calls.mono (H3p.out _ _ hwb) ?_
    rintro e wc ⟨rfl,hbc⟩
    have hwc:=hwb.below hbc
    go_wp2_with fail
    refine hK.out _ _ ?_ (fun hHeld=>?_)
    ·exact HKq.out _ _ hwc
    clear hK K
    try simp only [Act.put,List.getElem_cons_succ,List.getElem_cons_zero,List.getElem_toArray,List.setIfInBounds_toArray,List.set_cons_zero,List.set_cons_succ]
    refine wpAnyH_ready (rs:=[18]) (by kernel_rfl) (by simp) ?_
    refine AllReadyH.cons rfl (fun K hK=>?_) AllReadyH.nil
    go_simp
    refine Calls.mono (H3.out _ hwc) ?_
    rintro e wd ⟨rfl,hwd⟩
    go_wp2_with fail
    refine hK.out _ _ ?_ (fun hHeld=>?_)
    ·exact HKq.out _ _ hwd
    clear hK K
    try simp only [Act.put,List.getElem_cons_succ,List.getElem_cons_zero,List.getElem_toArray,List.setIfInBounds_toArray,List.set_cons_zero,List.set_cons_succ]
    refine wpAnyH_take (i:=19) (v:=?vb19) rfl (by kernel_rfl) (by kernel_rfl) (by kernel_rfl) (fun _ _ _ h=>h) (Or.inl ⟨by rfl,?hyb19⟩) hHeld ?restb19
    case hyb19=>(intro w hSw;(try dsimp only at hSw);go_simp;try with_reducible rfl)
    try simp only [Act.put,List.getElem_cons_succ,List.getElem_cons_zero,List.getElem_toArray,List.setIfInBounds_toArray,List.set_cons_zero,List.set_cons_succ]
    refine wpAnyH_take (i:=20) (v:=?vb20) rfl (by kernel_rfl) (by kernel_rfl) (by kernel_rfl) (fun _ _ _ h=>h) (Or.inl ⟨by rfl,?hyb20⟩) hHeld ?restb20
    case hyb20=>(intro w hSw;(try dsimp only at hSw);go_simp;try with_reducible rfl)
    try simp only [Act.put,List.getElem_cons_succ,List.getElem_cons_zero,List.getElem_toArray,List.setIfInBounds_toArray,List.set_cons_zero,List.set_cons_succ]
    refine wpAnyH_take (i:=21) (v:=undef) rfl (by kernel_rfl) (by kernel_rfl) (by kernel_rfl) (fun _ _ _ h=>h) (Or.inr ⟨by rfl,rfl⟩) hHeld ?_
    try simp only [Act.put,List.getElem_cons_succ,List.getElem_cons_zero,List.getElem_toArray,List.setIfInBounds_toArray,List.set_cons_zero,List.set_cons_succ]
    refine wpAnyH_take (i:=22) (v:=undef) rfl (by kernel_rfl) (by kernel_rfl) (by kernel_rfl) (fun _ _ _ h=>h) (Or.inr ⟨by rfl,rfl⟩) hHeld ?_
    try simp only [Act.put,List.getElem_cons_succ,List.getElem_cons_zero,List.getElem_toArray,List.setIfInBounds_toArray,List.set_cons_zero,List.set_cons_succ]
    refine wpAnyH_take (i:=23) (v:=undef) rfl (by kernel_rfl) (by kernel_rfl) (by kernel_rfl) (fun _ _ _ h=>h) (Or.inr ⟨by rfl,rfl⟩) hHeld ?_
    try simp only [Act.put,List.getElem_cons_succ,List.getElem_cons_zero,List.getElem_toArray,List.setIfInBounds_toArray,List.set_cons_zero,List.set_cons_succ]
    refine wpAnyH_take (i:=24) (v:=?vb24) rfl (by kernel_rfl) (by kernel_rfl) (by kernel_rfl) (fun _ _ _ h=>h) (Or.inl ⟨by rfl,?hyb24⟩) hHeld ?restb24
    case hyb24=>(intro w hSw;(try dsimp only at hSw);go_simp;try with_reducible rfl)
    try simp only [Act.put,List.getElem_cons_succ,List.getElem_cons_zero,List.getElem_toArray,List.setIfInBounds_toArray,List.set_cons_zero,List.set_cons_succ]
    refine wpAnyH_take (i:=25) (v:=?vb25) rfl (by kernel_rfl) (by kernel_rfl) (by kernel_rfl) (fun _ _ _ h=>h) (Or.inl ⟨by rfl,?hyb25⟩) hHeld ?restb25
    case hyb25=>(intro w hSw;(try dsimp only at hSw);go_simp;try with_reducible rfl)
    try simp only [Act.put,List.getElem_cons_succ,List.getElem_cons_zero,List.getElem_toArray,List.setIfInBounds_toArray,List.set_cons_zero,List.set_cons_succ]
    refine wpAnyH_done (by kernel_rfl) ?_ _
    go_wp2_with fail
    go_ret
    exact ⟨rfl,HP0.out.then hwd.pg⟩
  ·simp only [Bool.not_eq_true] at hB
   rw [hB] at H2 ⊢
   simp only [Bool.false_eq_true,if_false]
   clear hB H3 H4 H3p
   generalize T1++seT x.d buE [(leN,inN)] (Lib.decDigits x.n)=T2 at *
   go_enter Tryz.func49,Tryz.ntmps49
   go_upto_region 1 with fail
   rw [← HW0.out]
   clear HW0
   refine wp_region_held_drew (S:=fun W=>cB w.heap.size x (.slice ao x.d.labels.length cap) (.slice co x.cs.length ccap) W) (by kernel_rfl) (HKq.out _ _ (HI0.out.below (belD (Below.refl _ _)))) (fun hHeld=>?_)
   refine wpAnyH_take (i:=0) (v:=?vc0) rfl (by kernel_rfl) (by kernel_rfl) (by kernel_rfl) (fun _ _ _ h=>h) (Or.inl ⟨by rfl,?hyc0⟩) hHeld ?restc0
   case hyc0=>(intro w hSw;(try dsimp only at hSw);go_simp;try with_reducible rfl)
   try simp only [Act.put,List.getElem_cons_zero,List.getElem_toArray,List.setIfInBounds_toArray,List.set_cons_zero,List.set_cons_succ]
   refine wpAnyH_take (i:=1) (v:=?vc1) rfl (by kernel_rfl) (by kernel_rfl) (by kernel_rfl) (fun _ _ _ h=>h) (Or.inl ⟨by rfl,?hyc1⟩) hHeld ?restc1
   case hyc1=>(intro w hSw;(try dsimp only at hSw);go_simp;try with_reducible rfl)
   try simp only [Act.put,List.getElem_cons_succ,List.getElem_cons_zero,List.getElem_toArray,List.setIfInBounds_toArray,List.set_cons_zero,List.set_cons_succ]
   refine wpAnyH_ready (rs:=[2]) (by kernel_rfl) (by simp) ?_
   refine AllReadyH.cons rfl (fun K hK=>?_) AllReadyH.nil
   go_simp
   refine Calls.mono (H1.out _ (HI0.out.below (belD (Below.refl _ _)))) ?_
   rintro e wa ⟨rfl,hwa⟩
   go_wp2_with fail
   refine hK.out _ _ ?_ (fun hHeld=>?_)
   ·exact HKq.out _ _ hwa
   clear hK K
   try simp only [Act.put,List.getElem_cons_succ,List.getElem_cons_zero,List.getElem_toArray,List.setIfInBounds_toArray,List.set_cons_zero,List.set_cons_succ]
   refine wpAnyH_take (i:=3) (v:=?vc3) rfl (by kernel_rfl) (by kernel_rfl) (by kernel_rfl) (fun _ _ _ h=>h) (Or.inl ⟨by rfl,?hyc3⟩) hHeld ?restc3
   case hyc3=>(intro w hSw;(try dsimp only at hSw);go_simp;try with_reducible rfl)
   try simp only [Act.put,List.getElem_cons_succ,List.getElem_cons_zero,List.getElem_toArray,List.setIfInBounds_toArray,List.set_cons_zero,List.set_cons_succ]
   refine wpAnyH_take (i:=4) (v:=?vc4) rfl (by kernel_rfl) (by kernel_rfl) (by kernel_rfl) (fun _ _ _ h=>h) (Or.inl ⟨by rfl,?hyc4⟩) hHeld ?restc4
   case hyc4=>(intro w hSw;(try dsimp only at hSw);go_simp;try with_reducible rfl)
   try simp only [Act.put,List.getElem_cons_succ,List.getElem_cons_zero,List.getElem_toArray,List.setIfInBounds_toArray,List.set_cons_zero,List.set_cons_succ]
   refine wpAnyH_take (i:=5) (v:=?vc5) rfl (by kernel_rfl) (by kernel_rfl) (by kernel_rfl) (fun _ _ _ h=>h) (Or.inl ⟨by rfl,?hyc5⟩) hHeld ?restc5
   case hyc5=>(intro w hSw;(try dsimp only at hSw);go_simp;try with_reducible rfl)
   try simp only [Act.put,List.getElem_cons_succ,List.getElem_cons_zero,List.getElem_toArray,List.setIfInBounds_toArray,List.set_cons_zero,List.set_cons_succ]
   refine wpAnyH_take (i:=6) (v:=?vc6) rfl (by kernel_rfl) (by kernel_rfl) (by kernel_rfl) (fun _ _ _ h=>h) (Or.inl ⟨by rfl,?hyc6⟩) hHeld ?restc6
   case hyc6=>(intro w hSw;(try dsimp only at hSw);go_simp;try with_reducible rfl)
   try simp only [Act.put,List.getElem_cons_succ,List.getElem_cons_zero,List.getElem_toArray,List.setIfInBounds_toArray,List.set_cons_zero,List.set_cons_succ]
   refine wpAnyH_take (i:=7) (v:=?vc7) rfl (by kernel_rfl) (by kernel_rfl) (by kernel_rfl) (fun _ _ _ h=>h) (Or.inl ⟨by rfl,?hyc7⟩) hHeld ?restc7
   case hyc7=>(intro w hSw;(try dsimp only at hSw);go_simp;try with_reducible rfl)
   try simp only [Act.put,List.getElem_cons_succ,List.getElem_cons_zero,List.getElem_toArray,List.setIfInBounds_toArray,List.set_cons_zero,List.set_cons_succ]
   refine wpAnyH_take (i:=8) (v:=?vc8) rfl (by kernel_rfl) (by kernel_rfl) (by kernel_rfl) (fun _ _ _ h=>h) (Or.inl ⟨by rfl,?hyc8⟩) hHeld ?restc8
   case hyc8=>(intro w hSw;(try dsimp only at hSw);go_simp;try with_reducible rfl)
   try simp only [Act.put,List.getElem_cons_succ,List.getElem_cons_zero,List.getElem_toArray,List.setIfInBounds_toArray,List.set_cons_zero,List.set_cons_succ]
   refine wpAnyH_ready (rs:=[9]) (by kernel_rfl) (by simp) ?_
   refine AllReadyH.cons rfl (fun K hK=>?_) AllReadyH.nil
   go_simp
   refine Calls.mono (H2.out _ hwa) ?_
   rintro e wb ⟨rfl,hwb⟩
   go_wp2_with fail
   refine hK.out _ _ ?_ (fun hHeld=>?_)
   ·exact HKq.out _ _ hwb
   clear hK K
   try simp only [Act.put,List.getElem_cons_succ,List.getElem_cons_zero,List.getElem_toArray,List.setIfInBounds_toArray,List.set_cons_zero,List.set_cons_succ]
   refine wpAnyH_take (i:=10) (v:=?vc10) rfl (by kernel_rfl) (by kernel_rfl) (by kernel_rfl) (fun _ _ _ h=>h) (Or.inl ⟨by rfl,?hyc10⟩) hHeld ?restc10
   case hyc10=>(intro w hSw;(try dsimp only at hSw);go_simp;try with_reducible rfl)
   try simp only [Act.put,List.getElem_cons_succ,List.getElem_cons_zero,List.getElem_toArray,List.setIfInBounds_toArray,List.set_cons_zero,List.set_cons_succ]
   refine wpAnyH_take (i:=11) (v:=?vc11) rfl (by kernel_rfl) (by kernel_rfl) (by kernel_rfl) (fun _ _ _ h=>h) (Or.inl ⟨by rfl,?hyc11⟩) hHeld ?restc11
   case hyc11=>(intro w hSw;(try dsimp only at hSw);go_simp;try with_reducible rfl)
   try simp only [Act.put,List.getElem_cons_succ,List.getElem_cons_zero,List.getElem_toArray,List.setIfInBounds_toArray,List.set_cons_zero,List.set_cons_succ]
   refine wpAnyH_take (i:=12) (v:=undef) rfl (by kernel_rfl) (by kernel_rfl) (by kernel_rfl) (fun _ _ _ h=>h) (Or.inr ⟨by rfl,rfl⟩) hHeld ?_
   try simp only [Act.put,List.getElem_cons_succ,List.getElem_cons_zero,List.getElem_toArray,List.setIfInBounds_toArray,List.set_cons_zero,List.set_cons_succ]
   refine wpAnyH_take (i:=13) (v:=undef) rfl (by kernel_rfl) (by kernel_rfl) (by kernel_rfl) (fun _ _ _ h=>h) (Or.inr ⟨by rfl,rfl⟩) hHeld ?_
   try simp only [Act.put,List.getElem_cons_succ,List.getElem_cons_zero,List.getElem_toArray,List.setIfInBounds_toArray,List.set_cons_zero,List.set_cons_succ]
   refine wpAnyH_take (i:=14) (v:=undef) rfl (by kernel_rfl) (by kernel_rfl) (by kernel_rfl) (fun _ _ _ h=>h) (Or.inr ⟨by rfl,rfl⟩) hHeld ?_
   try simp only [Act.put,List.getElem_cons_succ,List.getElem_cons_zero,List.getElem_toArray,List.setIfInBounds_toArray,List.set_cons_zero,List.set_cons_succ]
   refine wpAnyH_take (i:=15) (v:=undef) rfl (by kernel_rfl) (by kernel_rfl) (by kernel_rfl) (fun _ _ _ h=>h) (Or.inr ⟨by rfl,rfl⟩) hHeld ?_
   try simp only [Act.put,List.getElem_cons_succ,List.getElem_cons_zero,List.getElem_toArray,List.setIfInBounds_toArray,List.set_cons_zero,List.set_cons_succ]
   refine wpAnyH_take (i:=16) (v:=undef) rfl (by kernel_rfl) (by kernel_rfl) (by kernel_rfl) (fun _ _ _ h=>h) (Or.inr ⟨by rfl,rfl⟩) hHeld ?_
   try simp only [Act.put,List.getElem_cons_succ,List.getElem_cons_zero,List.getElem_toArray,List.setIfInBounds_toArray,List.set_cons_zero,List.set_cons_succ]
   refine wpAnyH_take (i:=17) (v:=undef) rfl (by kernel_rfl) (by kernel_rfl) (by kernel_rfl) (fun _ _ _ h=>h) (Or.inr ⟨by rfl,rfl⟩) hHeld ?_
   try simp only [Act.put,List.getElem_cons_succ,List.getElem_cons_zero,List.getElem_toArray,List.setIfInBounds_toArray,List.set_cons_zero,List.set_cons_succ]
   refine wpAnyH_take (i:=18) (v:=undef) rfl (by kernel_rfl) (by kernel_rfl) (by kernel_rfl) (fun _ _ _ h=>h) (Or.inr ⟨by rfl,rfl⟩) hHeld ?_
   try simp only [Act.put,List.getElem_cons_succ,List.getElem_cons_zero,List.getElem_toArray,List.setIfInBounds_toArray,List.set_cons_zero,List.set_cons_succ]
   refine wpAnyH_take (i:=19) (v:=?vc19) rfl (by kernel_rfl) (by kernel_rfl) (by kernel_rfl) (fun _ _ _ h=>h) (Or.inl ⟨by rfl,?hyc19⟩) hHeld ?restc19
   case hyc19=>(intro w hSw;(try dsimp only at hSw);go_simp;try with_reducible rfl)
   try simp only [Act.put,List.getElem_cons_succ,List.getElem_cons_zero,List.getElem_toArray,List.setIfInBounds_toArray,List.set_cons_zero,List.set_cons_succ]
   refine wpAnyH_take (i:=20) (v:=?vc20) rfl (by kernel_rfl) (by kernel_rfl) (by kernel_rfl) (fun _ _ _ h=>h) (Or.inl ⟨by rfl,?hyc20⟩) hHeld ?restc20
   case hyc20=>(intro w hSw;(try dsimp only at hSw);go_simp;try with_reducible rfl)
   try simp only [Act.put,List.getElem_cons_succ,List.getElem_cons_zero,List.getElem_toArray,List.setIfInBounds_toArray,List.set_cons_zero,List.set_cons_succ]
   refine wpAnyH_take (i:=21) (v:=undef) rfl (by kernel_rfl) (by kernel_rfl) (by kernel_rfl) (fun _ _ _ h=>h) (Or.inr ⟨by rfl,rfl⟩) hHeld ?_
   try simp only [Act.put,List.getElem_cons_succ,List.getElem_cons_zero,List.getElem_toArray,List.setIfInBounds_toArray,List.set_cons_zero,List.set_cons_succ]
   refine wpAnyH_take (i:=22) (v:=undef) rfl (by kernel_rfl) (by kernel_rfl) (by kernel_rfl) (fun _ _ _ h=>h) (Or.inr ⟨by rfl,rfl⟩) hHeld ?_
   try simp only [Act.put,List.getElem_cons_succ,List.getElem_cons_zero,List.getElem_toArray,List.setIfInBounds_toArray,List.set_cons_zero,List.set_cons_succ]
   refine wpAnyH_take (i:=23) (v:=undef) rfl (by kernel_rfl) (by kernel_rfl) (by kernel_rfl) (fun _ _ _ h=>h) (Or.inr ⟨by rfl,rfl⟩) hHeld ?_
   try simp only [Act.put,List.getElem_cons_succ,List.getElem_cons_zero,List.getElem_toArray,List.setIfInBounds_toArray,List.set_cons_zero,List.set_cons_succ]
   refine wpAnyH_take (i:=24) (v:=?vc24) rfl (by kernel_rfl) (by kernel_rfl) (by kernel_rfl) (fun _ _ _ h=>h) (Or.inl ⟨by rfl,?hyc24⟩) hHeld ?restc24
   case hyc24=>(intro w hSw;(try dsimp only at hSw);go_simp;try with_reducible rfl)
   try simp only [Act.put,List.getElem_cons_succ,List.getElem_cons_zero,List.getElem_toArray,List.setIfInBounds_toArray,List.set_cons_zero,List.set_cons_succ]
   refine wpAnyH_take (i:=25) (v:=?vc25) rfl (by kernel_rfl) (by kernel_rfl) (by kernel_rfl) (fun _ _ _ h=>h) (Or.inl ⟨by rfl,?hyc25⟩) hHeld ?restc25
   case hyc25=>(intro w hSw;(try dsimp only at hSw);go_simp;try with_reducible rfl)
   try simp only [Act.put,List.getElem_cons_succ,List.getElem_cons_zero,List.getElem_toArray,List.setIfInBounds_toArray,List.set_cons_zero,List.set_cons_succ]
   refine wpAnyH_done (by kernel_rfl) ?_ _
   go_wp2_with fail
   go_ret
   exact ⟨rfl,HP0.out.then hwb.pg⟩
 ·simp only [Bool.not_eq_true] at hA
  rw [hA] at H1
  simp only [hA,Bool.false_eq_true,if_false]
  clear hA H2 H3 H4 H3p hft
  generalize (wrL T0 (bkL x.d P 0 x.cs)).1=T1 at *
  go_enter Tryz.func49,Tryz.ntmps49
  go_upto_region 1 with fail
  rw [← HW0.out]
  clear HW0
  refine wp_region_held_drew (S:=fun W=>cB w.heap.size x (.slice ao x.d.labels.length cap) (.slice co x.cs.length ccap) W) (by kernel_rfl) (HKq.out _ _ (HI0.out.below (belD (Below.refl _ _)))) (fun hHeld=>?_)
  refine wpAnyH_take (i:=0) (v:=?vd0) rfl (by kernel_rfl) (by kernel_rfl) (by kernel_rfl) (fun _ _ _ h=>h) (Or.inl ⟨by rfl,?hyd0⟩) hHeld ?restd0
  case hyd0=>(intro w hSw;(try dsimp only at hSw);go_simp;try with_reducible rfl)
  try simp only [Act.put,List.getElem_cons_zero,List.getElem_toArray,List.setIfInBounds_toArray,List.set_cons_zero,List.set_cons_succ]
  refine wpAnyH_take (i:=1) (v:=?vd1) rfl (by kernel_rfl) (by kernel_rfl) (by kernel_rfl) (fun _ _ _ h=>h) (Or.inl ⟨by rfl,?hyd1⟩) hHeld ?restd1
  case hyd1=>(intro w hSw;(try dsimp only at hSw);go_simp;try with_reducible rfl)
  try simp only [Act.put,List.getElem_cons_succ,List.getElem_cons_zero,List.getElem_toArray,List.setIfInBounds_toArray,List.set_cons_zero,List.set_cons_succ]
  refine wpAnyH_ready (rs:=[2]) (by kernel_rfl) (by simp) ?_
  refine AllReadyH.cons rfl (fun K hK=>?_) AllReadyH.nil
  go_simp
  refine Calls.mono (H1.out _ (HI0.out.below (belD (Below.refl _ _)))) ?_
  rintro e wa ⟨rfl,hwa⟩
  go_wp2_with fail
  refine hK.out _ _ ?_ (fun hHeld=>?_)
  ·exact HKq.out _ _ hwa
  clear hK K
  try simp only [Act.put,List.getElem_cons_succ,List.getElem_cons_zero,List.getElem_toArray,List.setIfInBounds_toArray,List.set_cons_zero,List.set_cons_succ]
  refine wpAnyH_take (i:=3) (v:=?vd3) rfl (by kernel_rfl) (by kernel_rfl) (by kernel_rfl) (fun _ _ _ h=>h) (Or.inl ⟨by rfl,?hyd3⟩) hHeld ?restd3
  case hyd3=>(intro w hSw;(try dsimp only at hSw);go_simp;try with_reducible rfl)
  try simp only [Act.put,List.getElem_cons_succ,List.getElem_cons_zero,List.getElem_toArray,List.setIfInBounds_toArray,List.set_cons_zero,List.set_cons_succ]
  refine wpAnyH_take (i:=4) (v:=undef) rfl (by kernel_rfl) (by kernel_rfl) (by kernel_rfl) (fun _ _ _ h=>h) (Or.inr ⟨by rfl,rfl⟩) hHeld ?_
  try simp only [Act.put,List.getElem_cons_succ,List.getElem_cons_zero,List.getElem_toArray,List.setIfInBounds_toArray,List.set_cons_zero,List.set_cons_succ]
  refine wpAnyH_take (i:=5) (v:=undef) rfl (by kernel_rfl) (by kernel_rfl) (by kernel_rfl) (fun _ _ _ h=>h) (Or.inr ⟨by rfl,rfl⟩) hHeld ?_
  try simp only [Act.put,List.getElem_cons_succ,List.getElem_cons_zero,List.getElem_toArray,List.setIfInBounds_toArray,List.set_cons_zero,List.set_cons_succ]
  refine wpAnyH_take (i:=6) (v:=undef) rfl (by kernel_rfl) (by kernel_rfl) (by kernel_rfl) (fun _ _ _ h=>h) (Or.inr ⟨by rfl,rfl⟩) hHeld ?_
  try simp only [Act.put,List.getElem_cons_succ,List.getElem_cons_zero,List.getElem_toArray,List.setIfInBounds_toArray,List.set_cons_zero,List.set_cons_succ]
  refine wpAnyH_take (i:=7) (v:=undef) rfl (by kernel_rfl) (by kernel_rfl) (by kernel_rfl) (fun _ _ _ h=>h) (Or.inr ⟨by rfl,rfl⟩) hHeld ?_
  try simp only [Act.put,List.getElem_cons_succ,List.getElem_cons_zero,List.getElem_toArray,List.setIfInBounds_toArray,List.set_cons_zero,List.set_cons_succ]
  refine wpAnyH_take (i:=8) (v:=undef) rfl (by kernel_rfl) (by kernel_rfl) (by kernel_rfl) (fun _ _ _ h=>h) (Or.inr ⟨by rfl,rfl⟩) hHeld ?_
  try simp only [Act.put,List.getElem_cons_succ,List.getElem_cons_zero,List.getElem_toArray,List.setIfInBounds_toArray,List.set_cons_zero,List.set_cons_succ]
  refine wpAnyH_take (i:=9) (v:=undef) rfl (by kernel_rfl) (by kernel_rfl) (by kernel_rfl) (fun _ _ _ h=>h) (Or.inr ⟨by rfl,rfl⟩) hHeld ?_
  try simp only [Act.put,List.getElem_cons_succ,List.getElem_cons_zero,List.getElem_toArray,List.setIfInBounds_toArray,List.set_cons_zero,List.set_cons_succ]
  refine wpAnyH_take (i:=10) (v:=?vd10) rfl (by kernel_rfl) (by kernel_rfl) (by kernel_rfl) (fun _ _ _ h=>h) (Or.inl ⟨by rfl,?hyd10⟩) hHeld ?restd10
  case hyd10=>(intro w hSw;(try dsimp only at hSw);go_simp;try with_reducible rfl)
  try simp only [Act.put,List.getElem_cons_succ,List.getElem_cons_zero,List.getElem_toArray,List.setIfInBounds_toArray,List.set_cons_zero,List.set_cons_succ]
  refine wpAnyH_take (i:=11) (v:=?vd11) rfl (by kernel_rfl) (by kernel_rfl) (by kernel_rfl) (fun _ _ _ h=>h) (Or.inl ⟨by rfl,?hyd11⟩) hHeld ?restd11
  case hyd11=>(intro w hSw;(try dsimp only at hSw);go_simp;try with_reducible rfl)
  try simp only [Act.put,List.getElem_cons_succ,List.getElem_cons_zero,List.getElem_toArray,List.setIfInBounds_toArray,List.set_cons_zero,List.set_cons_succ]
  refine wpAnyH_take (i:=12) (v:=undef) rfl (by kernel_rfl) (by kernel_rfl) (by kernel_rfl) (fun _ _ _ h=>h) (Or.inr ⟨by rfl,rfl⟩) hHeld ?_
  try simp only [Act.put,List.getElem_cons_succ,List.getElem_cons_zero,List.getElem_toArray,List.setIfInBounds_toArray,List.set_cons_zero,List.set_cons_succ]
  refine wpAnyH_take (i:=13) (v:=undef) rfl (by kernel_rfl) (by kernel_rfl) (by kernel_rfl) (fun _ _ _ h=>h) (Or.inr ⟨by rfl,rfl⟩) hHeld ?_
  try simp only [Act.put,List.getElem_cons_succ,List.getElem_cons_zero,List.getElem_toArray,List.setIfInBounds_toArray,List.set_cons_zero,List.set_cons_succ]
  refine wpAnyH_take (i:=14) (v:=undef) rfl (by kernel_rfl) (by kernel_rfl) (by kernel_rfl) (fun _ _ _ h=>h) (Or.inr ⟨by rfl,rfl⟩) hHeld ?_
  try simp only [Act.put,List.getElem_cons_succ,List.getElem_cons_zero,List.getElem_toArray,List.setIfInBounds_toArray,List.set_cons_zero,List.set_cons_succ]
  refine wpAnyH_take (i:=15) (v:=undef) rfl (by kernel_rfl) (by kernel_rfl) (by kernel_rfl) (fun _ _ _ h=>h) (Or.inr ⟨by rfl,rfl⟩) hHeld ?_
  try simp only [Act.put,List.getElem_cons_succ,List.getElem_cons_zero,List.getElem_toArray,List.setIfInBounds_toArray,List.set_cons_zero,List.set_cons_succ]
  refine wpAnyH_take (i:=16) (v:=undef) rfl (by kernel_rfl) (by kernel_rfl) (by kernel_rfl) (fun _ _ _ h=>h) (Or.inr ⟨by rfl,rfl⟩) hHeld ?_
  try simp only [Act.put,List.getElem_cons_succ,List.getElem_cons_zero,List.getElem_toArray,List.setIfInBounds_toArray,List.set_cons_zero,List.set_cons_succ]
  refine wpAnyH_take (i:=17) (v:=undef) rfl (by kernel_rfl) (by kernel_rfl) (by kernel_rfl) (fun _ _ _ h=>h) (Or.inr ⟨by rfl,rfl⟩) hHeld ?_
  try simp only [Act.put,List.getElem_cons_succ,List.getElem_cons_zero,List.getElem_toArray,List.setIfInBounds_toArray,List.set_cons_zero,List.set_cons_succ]
  refine wpAnyH_take (i:=18) (v:=undef) rfl (by kernel_rfl) (by kernel_rfl) (by kernel_rfl) (fun _ _ _ h=>h) (Or.inr ⟨by rfl,rfl⟩) hHeld ?_
  try simp only [Act.put,List.getElem_cons_succ,List.getElem_cons_zero,List.getElem_toArray,List.setIfInBounds_toArray,List.set_cons_zero,List.set_cons_succ]
  refine wpAnyH_take (i:=19) (v:=?vd19) rfl (by kernel_rfl) (by kernel_rfl) (by kernel_rfl) (fun _ _ _ h=>h) (Or.inl ⟨by rfl,?hyd19⟩) hHeld ?restd19
  case hyd19=>(intro w hSw;(try dsimp only at hSw);go_simp;try with_reducible rfl)
  try simp only [Act.put,List.getElem_cons_succ,List.getElem_cons_zero,List.getElem_toArray,List.setIfInBounds_toArray,List.set_cons_zero,List.set_cons_succ]
  refine wpAnyH_take (i:=20) (v:=?vd20) rfl (by kernel_rfl) (by kernel_rfl) (by kernel_rfl) (fun _ _ _ h=>h) (Or.inl ⟨by rfl,?hyd20⟩) hHeld ?restd20
  case hyd20=>(intro w hSw;(try dsimp only at hSw);go_simp;try with_reducible rfl)
  try simp only [Act.put,List.getElem_cons_succ,List.getElem_cons_zero,List.getElem_toArray,List.setIfInBounds_toArray,List.set_cons_zero,List.set_cons_succ]
  refine wpAnyH_take (i:=21) (v:=undef) rfl (by kernel_rfl) (by kernel_rfl) (by kernel_rfl) (fun _ _ _ h=>h) (Or.inr ⟨by rfl,rfl⟩) hHeld ?_
  try simp only [Act.put,List.getElem_cons_succ,List.getElem_cons_zero,List.getElem_toArray,List.setIfInBounds_toArray,List.set_cons_zero,List.set_cons_succ]
  refine wpAnyH_take (i:=22) (v:=undef) rfl (by kernel_rfl) (by kernel_rfl) (by kernel_rfl) (fun _ _ _ h=>h) (Or.inr ⟨by rfl,rfl⟩) hHeld ?_
  try simp only [Act.put,List.getElem_cons_succ,List.getElem_cons_zero,List.getElem_toArray,List.setIfInBounds_toArray,List.set_cons_zero,List.set_cons_succ]
  refine wpAnyH_take (i:=23) (v:=undef) rfl (by kernel_rfl) (by kernel_rfl) (by kernel_rfl) (fun _ _ _ h=>h) (Or.inr ⟨by rfl,rfl⟩) hHeld ?_
  try simp only [Act.put,List.getElem_cons_succ,List.getElem_cons_zero,List.getElem_toArray,List.setIfInBounds_toArray,List.set_cons_zero,List.set_cons_succ]
  refine wpAnyH_take (i:=24) (v:=?vd24) rfl (by kernel_rfl) (by kernel_rfl) (by kernel_rfl) (fun _ _ _ h=>h) (Or.inl ⟨by rfl,?hyd24⟩) hHeld ?restd24
  case hyd24=>(intro w hSw;(try dsimp only at hSw);go_simp;try with_reducible rfl)
  try simp only [Act.put,List.getElem_cons_succ,List.getElem_cons_zero,List.getElem_toArray,List.setIfInBounds_toArray,List.set_cons_zero,List.set_cons_succ]
  refine wpAnyH_take (i:=25) (v:=?vd25) rfl (by kernel_rfl) (by kernel_rfl) (by kernel_rfl) (fun _ _ _ h=>h) (Or.inl ⟨by rfl,?hyd25⟩) hHeld ?restd25
  case hyd25=>(intro w hSw;(try dsimp only at hSw);go_simp;try with_reducible rfl)
  try simp only [Act.put,List.getElem_cons_succ,List.getElem_cons_zero,List.getElem_toArray,List.setIfInBounds_toArray,List.set_cons_zero,List.set_cons_succ]
  refine wpAnyH_done (by kernel_rfl) ?_ _
  go_wp2_with fail
  go_ret
  exact ⟨rfl,HP0.out.then hwa.pg⟩
end Go.Proofs.YtfkbjdgbpenflaaGreatDoor
