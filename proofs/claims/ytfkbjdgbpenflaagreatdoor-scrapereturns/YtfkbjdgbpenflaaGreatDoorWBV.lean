/- WHICH BYTES NUMBERS HAVE. Own work of the verifier. -/
import Derived.Test.YtfkbjdgbpenflaaGreatDoorWBR
import Derived.Test.YtfkbjdgbpenflaaGreatDoorWAU
import Derived.Test.YtfkbjdgbpenflaaGreatDoorWBU
set_option maxRecDepth 100000
set_option maxHeartbeats 2000000
namespace Go.Proofs.YtfkbjdgbpenflaaGreatDoor
open Go.RowKit Me
def Hi (l:List UInt8):Prop:=∀ b ∈ l,43≤b.toNat
theorem Hi.app {a b:List UInt8} (h:Hi a) (k:Hi b):Hi (a++b):=fun c hc=>(List.mem_append.1 hc).elim (h c) (k c)
theorem Hi.cons {a:UInt8} {b:List UInt8} (h:43≤a.toNat) (k:Hi b):Hi (a::b):=fun c hc=>(List.mem_cons.1 hc).elim (fun e=>by rw [e];exact h) (k c)
theorem Hi.nil:Hi []:=fun _ h=>by cases h
theorem Hi.take {a:List UInt8} (h:Hi a) (n:Nat):Hi (a.take n):=fun c hc=>h c (List.mem_of_mem_take hc)
theorem Hi.drop {a:List UInt8} (h:Hi a) (n:Nat):Hi (a.drop n):=fun c hc=>h c (List.mem_of_mem_drop hc)
theorem hi_rep (n:Nat):Hi (List.replicate n 48):=fun c hc=>by rw [(List.mem_replicate.1 hc).2];decide
theorem hi_dec (n:Nat):Hi (Lib.decDigits n):=by
 induction n using Nat.strongRecOn with
 | _ n ih =>
  by_cases h:n < 10
  ·rw [Wi.dec_small h]
   refine Hi.cons ?_ Hi.nil
   have:(UInt8.ofNat (48+n)).toNat=48+n:=by rw [UInt8.toNat_ofNat'];omega
   omega
  ·rw [Wi.dec_big h]
   refine (ih _ (by omega)).app (Hi.cons ?_ Hi.nil)
   have:(UInt8.ofNat (48+n % 10)).toNat=48+n % 10:=by rw [UInt8.toNat_ofNat'];omega
   omega
theorem dec_pos (n:Nat):0 < (Lib.decDigits n).length:=by
 by_cases h:n < 10
 ·rw [Wi.dec_small h];simp
 ·rw [Wi.dec_big h];simp
theorem hi_itoa (n:Int):Hi (Lib.itoa n):=by
 by_cases h:n < 0
 ·rw [Wi.itoa_neg' h];exact Hi.cons (by decide) (hi_dec _)
 ·rw [Wi.itoa_pos' h];exact hi_dec _
theorem hi_sgn (s:Bool):Hi (Rl.sgn s):=by
 cases s
 ·exact fun _ h=>by simp [Rl.sgn] at h
 ·exact Hi.cons (by decide) Hi.nil
theorem hi_first (u:Nat):43≤((Lib.decDigits u).getD 0 0).toNat:=by
 have h:=dec_pos u
 have e:(Lib.decDigits u).getD 0 0=(Lib.decDigits u)[0]:=by rw [List.getD_eq_getElem?_getD,List.getElem?_eq_getElem h];rfl
 rw [e]
 exact hi_dec u _ (List.getElem_mem h)
theorem hi_fB (s:Bool) (u k:Nat) (dp:Int):Hi (Rl.fB s u k dp):=by
 unfold Rl.fB
 split
 ·exact (((hi_sgn s).app (Hi.cons (by decide) (Hi.cons (by decide) Hi.nil))).app (hi_rep _)).app ((hi_dec u).take k)
 ·split
  ·exact ((hi_sgn s).app ((hi_dec u).take k)).app (hi_rep _)
  ·exact (((hi_sgn s).app ((hi_dec u).take _)).app (Hi.cons (by decide) Hi.nil)).app (((hi_dec u).take k).drop _)
theorem hi_eHead (s:Bool) (u k:Nat):Hi (Rl.eHead s u k):=by
 unfold Rl.eHead
 split
 ·exact (hi_sgn s).app (Hi.cons (hi_first u) Hi.nil)
 ·exact ((hi_sgn s).app (Hi.cons (hi_first u) (Hi.cons (by decide) Hi.nil))).app (((hi_dec u).take k).drop 1)
theorem hi_lit (l:List UInt8) (h:l.all (fun b=>decide (43≤b.toNat))=true):Hi l:=fun b hb=>by
 have:=List.all_eq_true.1 h b hb
 simpa using this
theorem hi_text (x:Nat):Hi (Rl.pText x):=by
 unfold Rl.pText
 split
 ·exact (hi_eHead _ _ _).app (Hi.cons (by decide) (hi_itoa _))
 ·unfold Rl.fText
  split
  ·split <;> exact hi_lit _ (by decide)
  ·split
   ·exact hi_lit _ (by decide)
   ·split
    ·split <;> exact hi_lit _ (by decide)
    ·exact hi_fB _ _ _ _
theorem sgn_len (s:Bool):(Rl.sgn s).length≤1:=by cases s <;> simp [Rl.sgn]
theorem text_len (x:Nat):(Rl.pText x).length≤1000:=by
 unfold Rl.pText
 split
 ·rename_i he
  have he':=of_decide_eq_true he
  have h0:x % 9223372036854775808≠0:=by omega
  have h1:x % 9223372036854775808 < 9218868437227405312:=by omega
  obtain ⟨s1,s2,s3,s4⟩:=Rl.sd_bounds x h0 h1
  obtain ⟨p0,p1⟩:=Rl.pt_bounds x h0 h1
  have h3:(Lib.decDigits (Rl.sd x).1).length≤20:=by rw [Lib.decDigits_length];exact Lib.nDigits_le20 _ (by omega)
  have h4:=itoa_len (t:=Rl.pt x - 1) ⟨by omega,by omega⟩
  have h5:=sgn_len (decide (9223372036854775808≤x))
  unfold Rl.xText Rl.eHead
  split
  ·simp only [List.length_append,List.length_cons,List.length_nil]
   omega
  ·simp only [List.length_append,List.length_cons,List.length_nil,List.length_drop,List.length_take]
   omega
 ·unfold Rl.fText
  split
  ·split <;> decide
  ·rename_i h0
   split
   ·decide
   ·split
    ·split <;> decide
    ·rename_i h1 h2
     obtain ⟨s1,s2,s3,s4⟩:=Rl.sd_bounds x h0 (by omega)
     obtain ⟨p0,p1⟩:=Rl.pt_bounds x h0 (by omega)
     have h3:(Lib.decDigits (Rl.sd x).1).length≤20:=by rw [Lib.decDigits_length];exact Lib.nDigits_le20 _ (by omega)
     have h5:=sgn_len (decide (9223372036854775808≤x))
     unfold Rl.fB
     split
     ·simp only [List.length_append,List.length_cons,List.length_nil,List.length_take,List.length_replicate]
      omega
     ·split
      ·simp only [List.length_append,List.length_take,List.length_replicate]
       omega
      ·simp only [List.length_append,List.length_cons,List.length_nil,List.length_take,List.length_drop]
       omega
abbrev quN:List UInt8:=[113,117,97,110,116,105,108,101]
theorem sho_qu {d:La.Ds} (h:Sho d []) (le:List UInt8) (hl:le.length≤100) (hn:d.labels.length≤16):Sho d [(quN,le)]:=by
 refine ⟨h.n,h.h,by simp;omega,fun a ha=>?_⟩
 rcases List.mem_append.1 ha with k | k
 ·exact h.v a (by simpa using k)
 ·rw [List.mem_singleton.1 k]
  exact ⟨by show quN.length≤2000;decide,by show le.length≤2000;omega⟩
theorem quant_any (u:World) (pb:Nat) (p:Int) (T:List UInt8) (d:La.Ds) (lv:Value) (le:List UInt8) (x:Nat) (w:World) (h:Pg u pb w p T w) (ht:Rl.Glob2 u) (hl:SLb u lv d.labels) (hs:Sho d [(quN,le)]) (hn:x < 18446744073709551616) (hT:fitB T=true) :
  Calls Tryz.prog 87 #[.pointer (some ⟨pb,0,none⟩),dsV d lv,.string ⟨le.toArray⟩,.float .f64 x] w fun e w'=>e=.returned (.bool (fitB (T++seT d [] [(quN,le)] (Rl.pText x))))∧Pg u pb w p (T++seT d [] [(quN,le)] (Rl.pText x)) w':=by
 have HD:Hid (∀ w W,Pg u pb w p T W→_):=fun w W (k:Pg u pb w p T W)=>Rl.print_all x hn W (ht.below k.st)
 have HS:Hid (∀ w mb W,Pg u pb w p T W→W.heap[mb]? =some (.cells #[.string ⟨quN.toArray⟩,.string ⟨le.toArray⟩] 85)→Calls Tryz.prog 82 #[.pointer (some ⟨pb,0,none⟩),dsV d lv,.string ⟨#[]⟩,.string ⟨(Rl.pText x).toArray⟩,.slice (some ⟨mb,0,none⟩) 1 1] W fun e w'=>e=.returned (.bool (fitB (T++seT d [] [(quN,le)] (Rl.pText x))))∧Pg u pb w p (T++seT d [] [(quN,le)] (Rl.pText x)) w'):=fun w mb W k1 k2=>by
  refine Calls.mono (series_any u pb p T d lv _ [] (Rl.pText x) [(quN,le)] W k1.re hl (one_lb k2) hs (by decide) (by have:=text_len x;omega) (by have:=fit_len hT;omega)) ?_
  rintro e w' ⟨rfl,q⟩
  exact ⟨rfl,k1.then q⟩
 have HP:=hid_of h
 obtain ⟨ao,cap,rfl⟩:=hl.form
 clear h ht hl hs hn hT
 generalize T++seT d [] [(quN,le)] (Rl.pText x)=R at HS ⊢
 generalize Rl.pText x=D at HS HD
 go_enter Tryz.func87,Tryz.ntmps87
 go_upto_region 1 with fail
 have hN0:=new_1 w (.cells #[.int .i64 d.kind,.string ⟨d.name.toArray⟩,.string ⟨d.help.toArray⟩,.slice ao d.labels.length cap] 41)
 have HP0:=hid_of (HP.out.alloc (.cells #[.int .i64 d.kind,.string ⟨d.name.toArray⟩,.string ⟨d.help.toArray⟩,.slice ao d.labels.length cap] 41))
 have hne:w.heap.size≠pb:=by have:=HP.out.lt;omega
 generalize w.alloc (.cells #[.int .i64 d.kind,.string ⟨d.name.toArray⟩,.string ⟨d.help.toArray⟩,.slice ao d.labels.length cap] 41)=W0 at *
 have HKp:Hid (∀ W1,Below W0.heap.size W0 W1→bx4 w.heap.size d (.slice ao d.labels.length cap) W1):=fun W1 hb=>bx4_bel hb (bx4_of hN0)
 have HKq:Hid (∀ X W1,Pg u pb W0 p X W1→bx4 w.heap.size d (.slice ao d.labels.length cap) W1):=fun X W1 k=>bx4_of (k.cells hN0 hne (by decide))
 have HPr:=hid_of HP0.out.re
 clear hN0 HP hne
 go_region_held3 (fun W=>bx4 w.heap.size d (.slice ao d.labels.length cap) W)
  (first | (with_reducible exact HKq.out _ _ hPz) | ((with_reducible refine HKp.out _ ?_);repeat (first | with_reducible exact hB9 | with_reducible exact Below.refl _ _ | with_reducible refine belD ?_ | with_reducible refine belN _ ?_)))
  (first
   | (go_at_call 88;(with_reducible refine Calls.mono (HD.out _ _ (HPr.out.below (by repeat (first | with_reducible exact Below.refl _ _ | with_reducible refine belD ?_ | with_reducible refine belN _ ?_)))) ?_);rintro e w9 ⟨rfl,hb9⟩;have hB9:Below W0.heap.size W0 w9:=bt (by repeat (first | with_reducible exact Below.refl _ _ | with_reducible refine belD ?_ | with_reducible refine belN _ ?_)) hb9)
   | (go_at_call 82;(with_reducible refine Calls.mono (HS.out _ _ _ (HPr.out.below (by repeat (first | with_reducible exact hB9 | with_reducible refine belN _ ?_))) (by first | with_reducible exact new_1 _ _ | exact (hb9.block _ (by simp)).trans (new_1 _ _))) ?_);rintro e wz ⟨rfl,hPz⟩))
 all_goals
  go_wp2_with fail
  go_ret
  exact ⟨rfl,HP0.out.then hPz⟩
noncomputable def smL (x:Vl):List (List UInt8):=(if 0 < x.n then [seT x.d [] [(quN,[48])] (Rl.pText x.mn),seT x.d [] [(quN,[49])] (Rl.pText x.mx)] else [])++[seT x.d suE [] (Rl.pText x.sum),seT x.d coE [] (Lib.decDigits x.n)]
theorem summ_any (u:World) (pb:Nat) (p:Int) (T0:List UInt8) (x:Vl) (lv cv:Value) (w:World) (h:Pg u pb w p T0 w) (ht:Wi.Tab u) (hg:Rl.Glob2 u) (hl:SLb u lv x.d.labels) (hc:SN u cv x.cs) (hs:Sho x.d []) (hn:x.d.labels.length≤16) (hx:VW x) (hT:fitB T0=true) :
  Calls Tryz.prog 50 #[.pointer (some ⟨pb,0,none⟩),vx x lv cv] w fun e w'=>e=.returned (.bool (wrL T0 (smL x)).2)∧Pg u pb w p (wrL T0 (smL x)).1 w':=by
 have hlv:=hl
 have hcv:=hc
 obtain ⟨ao,cap,rfl⟩:=hl.form
 obtain ⟨co,ccap,rfl⟩:=SN.form hc
 obtain ⟨W0,hW0⟩:∃ W0,W0=w.alloc (.cells (vc x (.slice ao x.d.labels.length cap) (.slice co x.cs.length ccap)) 45):=⟨_,rfl⟩
 have hN0:W0.heap[w.heap.size]? =some (.cells (vc x (.slice ao x.d.labels.length cap) (.slice co x.cs.length ccap)) 45):=by rw [hW0];exact new_1 w _
 have hP0:Pg u pb w p T0 W0:=by rw [hW0];exact h.alloc _
 have hne:w.heap.size≠pb:=by have:=h.lt;omega
 have HI0:Hid (BI u pb w.heap.size W0 p x (.slice ao x.d.labels.length cap) (.slice co x.cs.length ccap) T0 W0):=⟨hP0.re,hN0⟩
 have HQ0:Hid (∀ T W,fitB T=true→BI u pb w.heap.size W0 p x (.slice ao x.d.labels.length cap) (.slice co x.cs.length ccap) T W→Calls Tryz.prog 87 #[.pointer (some ⟨pb,0,none⟩),dsV x.d (.slice ao x.d.labels.length cap),.string ⟨#[48]⟩,.float .f64 x.mn] W fun e w'=>e=.returned (.bool (fitB (T++seT x.d [] [(quN,[48])] (Rl.pText x.mn))))∧BI u pb w.heap.size W0 p x (.slice ao x.d.labels.length cap) (.slice co x.cs.length ccap) (T++seT x.d [] [(quN,[48])] (Rl.pText x.mn)) w'):=fun T W hf k=>by
  refine Calls.mono (quant_any u pb p T x.d _ [48] x.mn W k.pg.re hg hlv (sho_qu hs [48] (by decide) hn) hx.mn hf) ?_
  rintro e w' ⟨rfl,q⟩
  exact ⟨rfl,k.then q hne⟩
 have HQ1:Hid (∀ T W,fitB T=true→BI u pb w.heap.size W0 p x (.slice ao x.d.labels.length cap) (.slice co x.cs.length ccap) T W→Calls Tryz.prog 87 #[.pointer (some ⟨pb,0,none⟩),dsV x.d (.slice ao x.d.labels.length cap),.string ⟨#[49]⟩,.float .f64 x.mx] W fun e w'=>e=.returned (.bool (fitB (T++seT x.d [] [(quN,[49])] (Rl.pText x.mx))))∧BI u pb w.heap.size W0 p x (.slice ao x.d.labels.length cap) (.slice co x.cs.length ccap) (T++seT x.d [] [(quN,[49])] (Rl.pText x.mx)) w'):=fun T W hf k=>by
  refine Calls.mono (quant_any u pb p T x.d _ [49] x.mx W k.pg.re hg hlv (sho_qu hs [49] (by decide) hn) hx.mx hf) ?_
  rintro e w' ⟨rfl,q⟩
  exact ⟨rfl,k.then q hne⟩
 have H3p:Hid (∀ T W,BI u pb w.heap.size W0 p x (.slice ao x.d.labels.length cap) (.slice co x.cs.length ccap) T W→Calls Tryz.prog 88 #[.float .f64 x.sum] W fun e w'=>e=.returned (.string ⟨(Rl.pText x.sum).toArray⟩)∧Below W.heap.size W w'):=fun T W k=>Rl.print_all x.sum hx.sum W (hg.below k.pg.st)
 have H3:Hid (∀ T W,fitB T=true→BI u pb w.heap.size W0 p x (.slice ao x.d.labels.length cap) (.slice co x.cs.length ccap) T W→Calls Tryz.prog 82 #[.pointer (some ⟨pb,0,none⟩),dsV x.d (.slice ao x.d.labels.length cap),.string ⟨#[95,115,117,109]⟩,.string ⟨(Rl.pText x.sum).toArray⟩,.slice none 0 0] W fun e w'=>e=.returned (.bool (fitB (T++seT x.d suE [] (Rl.pText x.sum))))∧BI u pb w.heap.size W0 p x (.slice ao x.d.labels.length cap) (.slice co x.cs.length ccap) (T++seT x.d suE [] (Rl.pText x.sum)) w'):=fun T W hf k=>by
  refine Calls.mono (series_any u pb p T x.d _ _ suE (Rl.pText x.sum) [] W k.pg.re hlv (Or.inl ⟨rfl,rfl⟩) hs (by decide) (by have:=text_len x.sum;omega) (by have:=fit_len hf;omega)) ?_
  rintro e w' ⟨rfl,q⟩
  exact ⟨rfl,k.then q hne⟩
 have H4:Hid (∀ T W,fitB T=true→BI u pb w.heap.size W0 p x (.slice ao x.d.labels.length cap) (.slice co x.cs.length ccap) T W→Calls Tryz.prog 86 #[.pointer (some ⟨pb,0,none⟩),vx x (.slice ao x.d.labels.length cap) (.slice co x.cs.length ccap)] W fun e w'=>e=.returned (.bool (fitB (T++seT x.d coE [] (Lib.decDigits x.n))))∧BI u pb w.heap.size W0 p x (.slice ao x.d.labels.length cap) (.slice co x.cs.length ccap) (T++seT x.d coE [] (Lib.decDigits x.n)) w'):=fun T W hf k=>by
  refine Calls.mono (count_any u pb p T x _ _ W k.pg.re ht hlv hcv hs hx hf) ?_
  rintro e w' ⟨rfl,q⟩
  exact ⟨rfl,k.then q hne⟩
 have HKq:Hid (∀ X W,BI u pb w.heap.size W0 p x (.slice ao x.d.labels.length cap) (.slice co x.cs.length ccap) X W→cB w.heap.size x (.slice ao x.d.labels.length cap) (.slice co x.cs.length ccap) W):=fun X W k=>cB_of k.bx
 have HW0:=hid_of hW0
 have HP0:=hid_of hP0
 have HT0:=hid_of hT
 clear h ht hg hl hlv hc hcv hs hn hx hT hW0 hN0 hP0 hne
 by_cases hN:x.n=0
 ·have hN':decide ((0:Int) < (x.n:Int))=false:=by rw [decide_eq_false_iff_not];omega
  have hgt:¬ (0:Int) < (x.n:Int):=by omega
  unfold smL
  rw [if_neg (by omega),List.nil_append]
  clear HQ0 HQ1 hN
  have hfT:=HT0.out
  replace H3:=hid_of (fun W=>H3.out T0 W hfT)
  rw [wrL_two]
  by_cases hS:fitB (T0++seT x.d suE [] (Rl.pText x.sum))=true
  ·replace H4:=hid_of (fun W=>H4.out (T0++seT x.d suE [] (Rl.pText x.sum)) W hS)
   rw [hS] at H3 ⊢
   simp only [if_true]
   clear hS hfT
   generalize T0++seT x.d suE [] (Rl.pText x.sum)=T3 at *
   generalize T3++seT x.d coE [] (Lib.decDigits x.n)=T4 at *
   generalize Rl.pText x.sum=D at *
   go_enter Tryz.func50,Tryz.ntmps50
   go_upto_region 1 with fail
   rw [← HW0.out]
   clear HW0
   obtain ⟨d0,d1,d2,d3,d4,d5,d6,d7,d8,d9,da⟩:=HKq.out _ _ HI0.out
   go_upto_region 3 with fail
   clear d0 d1 d2 d3 d4 d5 d6 d7 d8 d9 da
   refine wp_region_held_drew (S:=fun W=>cB w.heap.size x (.slice ao x.d.labels.length cap) (.slice co x.cs.length ccap) W) (by kernel_rfl) (HKq.out _ _ (HI0.out.below (belD (Below.refl _ _)))) (fun hHeld=>?_)
   refine wpAnyH_take (i:=0) (v:=?va0) rfl (by kernel_rfl) (by kernel_rfl) (by kernel_rfl) (fun _ _ _ h=>h) (Or.inl ⟨by rfl,?hya0⟩) hHeld ?resta0
   case hya0=>(intro w hSw;(try dsimp only at hSw);go_simp;try with_reducible rfl)
   try simp only [Act.put,List.getElem_cons_zero,List.getElem_toArray,List.setIfInBounds_toArray,List.set_cons_zero,List.set_cons_succ]
   refine wpAnyH_take (i:=1) (v:=?va1) rfl (by kernel_rfl) (by kernel_rfl) (by kernel_rfl) (fun _ _ _ h=>h) (Or.inl ⟨by rfl,?hya1⟩) hHeld ?resta1
   case hya1=>(intro w hSw;(try dsimp only at hSw);go_simp;try with_reducible rfl)
   try simp only [Act.put,List.getElem_cons_succ,List.getElem_cons_zero,List.getElem_toArray,List.setIfInBounds_toArray,List.set_cons_zero,List.set_cons_succ]
   refine wpAnyH_take (i:=2) (v:=?va2) rfl (by kernel_rfl) (by kernel_rfl) (by kernel_rfl) (fun _ _ _ h=>h) (Or.inl ⟨by rfl,?hya2⟩) hHeld ?resta2
   case hya2=>(intro w hSw;(try dsimp only at hSw);go_simp;try with_reducible rfl)
   try simp only [Act.put,List.getElem_cons_succ,List.getElem_cons_zero,List.getElem_toArray,List.setIfInBounds_toArray,List.set_cons_zero,List.set_cons_succ]
   refine wpAnyH_take (i:=3) (v:=?va3) rfl (by kernel_rfl) (by kernel_rfl) (by kernel_rfl) (fun _ _ _ h=>h) (Or.inl ⟨by rfl,?hya3⟩) hHeld ?resta3
   case hya3=>(intro w hSw;(try dsimp only at hSw);go_simp;try with_reducible rfl)
   try simp only [Act.put,List.getElem_cons_succ,List.getElem_cons_zero,List.getElem_toArray,List.setIfInBounds_toArray,List.set_cons_zero,List.set_cons_succ]
   refine wpAnyH_take (i:=4) (v:=?va4) rfl (by kernel_rfl) (by kernel_rfl) (by kernel_rfl) (fun _ _ _ h=>h) (Or.inl ⟨by rfl,?hya4⟩) hHeld ?resta4
   case hya4=>(intro w hSw;(try dsimp only at hSw);go_simp;try with_reducible rfl)
   try simp only [Act.put,List.getElem_cons_succ,List.getElem_cons_zero,List.getElem_toArray,List.setIfInBounds_toArray,List.set_cons_zero,List.set_cons_succ]
   refine wpAnyH_ready (rs:=[5]) (by kernel_rfl) (by simp) ?_
   refine AllReadyH.cons rfl (fun K hK=>?_) AllReadyH.nil
   go_simp
   refine Calls.mono (H3p.out _ _ (HI0.out.below (belD (Below.refl _ _)))) ?_
   rintro e wp ⟨rfl,hbp⟩
   have hwp:=(HI0.out.below (belD (Below.refl _ _))).below hbp
   go_wp2_with fail
   refine hK.out _ _ ?_ (fun hHeld=>?_)
   ·exact HKq.out _ _ hwp
   clear hK K
   try simp only [Act.put,List.getElem_cons_succ,List.getElem_cons_zero,List.getElem_toArray,List.setIfInBounds_toArray,List.set_cons_zero,List.set_cons_succ]
   refine wpAnyH_ready (rs:=[6]) (by kernel_rfl) (by simp) ?_
   refine AllReadyH.cons rfl (fun K hK=>?_) AllReadyH.nil
   go_simp
   refine Calls.mono (H3.out _ hwp) ?_
   rintro e wq ⟨rfl,hwq⟩
   go_wp2_with fail
   refine hK.out _ _ ?_ (fun hHeld=>?_)
   ·exact HKq.out _ _ hwq
   clear hK K
   try simp only [Act.put,List.getElem_cons_succ,List.getElem_cons_zero,List.getElem_toArray,List.setIfInBounds_toArray,List.set_cons_zero,List.set_cons_succ]
   refine wpAnyH_take (i:=7) (v:=?va7) rfl (by kernel_rfl) (by kernel_rfl) (by kernel_rfl) (fun _ _ _ h=>h) (Or.inl ⟨by rfl,?hya7⟩) hHeld ?resta7
   case hya7=>(intro w hSw;(try dsimp only at hSw);go_simp;try with_reducible rfl)
   try simp only [Act.put,List.getElem_cons_succ,List.getElem_cons_zero,List.getElem_toArray,List.setIfInBounds_toArray,List.set_cons_zero,List.set_cons_succ]
   refine wpAnyH_take (i:=8) (v:=?va8) rfl (by kernel_rfl) (by kernel_rfl) (by kernel_rfl) (fun _ _ _ h=>h) (Or.inl ⟨by rfl,?hya8⟩) hHeld ?resta8
   case hya8=>(intro w hSw;(try dsimp only at hSw);go_simp;try with_reducible rfl)
   try simp only [Act.put,List.getElem_cons_succ,List.getElem_cons_zero,List.getElem_toArray,List.setIfInBounds_toArray,List.set_cons_zero,List.set_cons_succ]
   refine wpAnyH_take (i:=9) (v:=?va9) rfl (by kernel_rfl) (by kernel_rfl) (by kernel_rfl) (fun _ _ _ h=>h) (Or.inl ⟨by rfl,?hya9⟩) hHeld ?resta9
   case hya9=>(intro w hSw;(try dsimp only at hSw);go_simp;try with_reducible rfl)
   try simp only [Act.put,List.getElem_cons_succ,List.getElem_cons_zero,List.getElem_toArray,List.setIfInBounds_toArray,List.set_cons_zero,List.set_cons_succ]
   refine wpAnyH_ready (rs:=[10]) (by kernel_rfl) (by simp) ?_
   refine AllReadyH.cons rfl (fun K hK=>?_) AllReadyH.nil
   go_simp
   refine Calls.mono (H4.out _ hwq) ?_
   rintro e wr ⟨rfl,hwr⟩
   go_wp2_with fail
   refine hK.out _ _ ?_ (fun hHeld=>?_)
   ·exact HKq.out _ _ hwr
   clear hK K
   try simp only [Act.put,List.getElem_cons_succ,List.getElem_cons_zero,List.getElem_toArray,List.setIfInBounds_toArray,List.set_cons_zero,List.set_cons_succ]
   refine wpAnyH_take (i:=11) (v:=?va11) rfl (by kernel_rfl) (by kernel_rfl) (by kernel_rfl) (fun _ _ _ h=>h) (Or.inl ⟨by rfl,?hya11⟩) hHeld ?resta11
   case hya11=>(intro w hSw;(try dsimp only at hSw);go_simp;try with_reducible rfl)
   try simp only [Act.put,List.getElem_cons_succ,List.getElem_cons_zero,List.getElem_toArray,List.setIfInBounds_toArray,List.set_cons_zero,List.set_cons_succ]
   refine wpAnyH_take (i:=12) (v:=?va12) rfl (by kernel_rfl) (by kernel_rfl) (by kernel_rfl) (fun _ _ _ h=>h) (Or.inl ⟨by rfl,?hya12⟩) hHeld ?resta12
   case hya12=>(intro w hSw;(try dsimp only at hSw);go_simp;try with_reducible rfl)
   try simp only [Act.put,List.getElem_cons_succ,List.getElem_cons_zero,List.getElem_toArray,List.setIfInBounds_toArray,List.set_cons_zero,List.set_cons_succ]
   refine wpAnyH_done (by kernel_rfl) ?_ _
   go_wp2_with fail
   go_ret
   exact ⟨rfl,HP0.out.then hwr.pg⟩
  ·simp only [Bool.not_eq_true] at hS
   rw [hS] at H3 ⊢
   simp only [Bool.false_eq_true,if_false]
   clear hS H4 hfT
   generalize T0++seT x.d suE [] (Rl.pText x.sum)=T3 at *
   generalize Rl.pText x.sum=D at *
   go_enter Tryz.func50,Tryz.ntmps50
   go_upto_region 1 with fail
   rw [← HW0.out]
   clear HW0
   obtain ⟨d0,d1,d2,d3,d4,d5,d6,d7,d8,d9,da⟩:=HKq.out _ _ HI0.out
   go_upto_region 3 with fail
   clear d0 d1 d2 d3 d4 d5 d6 d7 d8 d9 da
   refine wp_region_held_drew (S:=fun W=>cB w.heap.size x (.slice ao x.d.labels.length cap) (.slice co x.cs.length ccap) W) (by kernel_rfl) (HKq.out _ _ (HI0.out.below (belD (Below.refl _ _)))) (fun hHeld=>?_)
   refine wpAnyH_take (i:=0) (v:=?vb0) rfl (by kernel_rfl) (by kernel_rfl) (by kernel_rfl) (fun _ _ _ h=>h) (Or.inl ⟨by rfl,?hyb0⟩) hHeld ?restb0
   case hyb0=>(intro w hSw;(try dsimp only at hSw);go_simp;try with_reducible rfl)
   try simp only [Act.put,List.getElem_cons_zero,List.getElem_toArray,List.setIfInBounds_toArray,List.set_cons_zero,List.set_cons_succ]
   refine wpAnyH_take (i:=1) (v:=?vb1) rfl (by kernel_rfl) (by kernel_rfl) (by kernel_rfl) (fun _ _ _ h=>h) (Or.inl ⟨by rfl,?hyb1⟩) hHeld ?restb1
   case hyb1=>(intro w hSw;(try dsimp only at hSw);go_simp;try with_reducible rfl)
   try simp only [Act.put,List.getElem_cons_succ,List.getElem_cons_zero,List.getElem_toArray,List.setIfInBounds_toArray,List.set_cons_zero,List.set_cons_succ]
   refine wpAnyH_take (i:=2) (v:=?vb2) rfl (by kernel_rfl) (by kernel_rfl) (by kernel_rfl) (fun _ _ _ h=>h) (Or.inl ⟨by rfl,?hyb2⟩) hHeld ?restb2
   case hyb2=>(intro w hSw;(try dsimp only at hSw);go_simp;try with_reducible rfl)
   try simp only [Act.put,List.getElem_cons_succ,List.getElem_cons_zero,List.getElem_toArray,List.setIfInBounds_toArray,List.set_cons_zero,List.set_cons_succ]
   refine wpAnyH_take (i:=3) (v:=?vb3) rfl (by kernel_rfl) (by kernel_rfl) (by kernel_rfl) (fun _ _ _ h=>h) (Or.inl ⟨by rfl,?hyb3⟩) hHeld ?restb3
   case hyb3=>(intro w hSw;(try dsimp only at hSw);go_simp;try with_reducible rfl)
   try simp only [Act.put,List.getElem_cons_succ,List.getElem_cons_zero,List.getElem_toArray,List.setIfInBounds_toArray,List.set_cons_zero,List.set_cons_succ]
   refine wpAnyH_take (i:=4) (v:=?vb4) rfl (by kernel_rfl) (by kernel_rfl) (by kernel_rfl) (fun _ _ _ h=>h) (Or.inl ⟨by rfl,?hyb4⟩) hHeld ?restb4
   case hyb4=>(intro w hSw;(try dsimp only at hSw);go_simp;try with_reducible rfl)
   try simp only [Act.put,List.getElem_cons_succ,List.getElem_cons_zero,List.getElem_toArray,List.setIfInBounds_toArray,List.set_cons_zero,List.set_cons_succ]
   refine wpAnyH_ready (rs:=[5]) (by kernel_rfl) (by simp) ?_
   refine AllReadyH.cons rfl (fun K hK=>?_) AllReadyH.nil
   go_simp
   refine Calls.mono (H3p.out _ _ (HI0.out.below (belD (Below.refl _ _)))) ?_
   rintro e wp ⟨rfl,hbp⟩
   have hwp:=(HI0.out.below (belD (Below.refl _ _))).below hbp
   go_wp2_with fail
   refine hK.out _ _ ?_ (fun hHeld=>?_)
   ·exact HKq.out _ _ hwp
   clear hK K
   try simp only [Act.put,List.getElem_cons_succ,List.getElem_cons_zero,List.getElem_toArray,List.setIfInBounds_toArray,List.set_cons_zero,List.set_cons_succ]
   refine wpAnyH_ready (rs:=[6]) (by kernel_rfl) (by simp) ?_
   refine AllReadyH.cons rfl (fun K hK=>?_) AllReadyH.nil
   go_simp
   refine Calls.mono (H3.out _ hwp) ?_
   rintro e wq ⟨rfl,hwq⟩
   go_wp2_with fail
   refine hK.out _ _ ?_ (fun hHeld=>?_)
   ·exact HKq.out _ _ hwq
   clear hK K
   try simp only [Act.put,List.getElem_cons_succ,List.getElem_cons_zero,List.getElem_toArray,List.setIfInBounds_toArray,List.set_cons_zero,List.set_cons_succ]
   refine wpAnyH_take (i:=7) (v:=?vb7) rfl (by kernel_rfl) (by kernel_rfl) (by kernel_rfl) (fun _ _ _ h=>h) (Or.inl ⟨by rfl,?hyb7⟩) hHeld ?restb7
   case hyb7=>(intro w hSw;(try dsimp only at hSw);go_simp;try with_reducible rfl)
   try simp only [Act.put,List.getElem_cons_succ,List.getElem_cons_zero,List.getElem_toArray,List.setIfInBounds_toArray,List.set_cons_zero,List.set_cons_succ]
   refine wpAnyH_take (i:=8) (v:=undef) rfl (by kernel_rfl) (by kernel_rfl) (by kernel_rfl) (fun _ _ _ h=>h) (Or.inr ⟨by rfl,rfl⟩) hHeld ?_
   try simp only [Act.put,List.getElem_cons_succ,List.getElem_cons_zero,List.getElem_toArray,List.setIfInBounds_toArray,List.set_cons_zero,List.set_cons_succ]
   refine wpAnyH_take (i:=9) (v:=undef) rfl (by kernel_rfl) (by kernel_rfl) (by kernel_rfl) (fun _ _ _ h=>h) (Or.inr ⟨by rfl,rfl⟩) hHeld ?_
   try simp only [Act.put,List.getElem_cons_succ,List.getElem_cons_zero,List.getElem_toArray,List.setIfInBounds_toArray,List.set_cons_zero,List.set_cons_succ]
   refine wpAnyH_take (i:=10) (v:=undef) rfl (by kernel_rfl) (by kernel_rfl) (by kernel_rfl) (fun _ _ _ h=>h) (Or.inr ⟨by rfl,rfl⟩) hHeld ?_
   try simp only [Act.put,List.getElem_cons_succ,List.getElem_cons_zero,List.getElem_toArray,List.setIfInBounds_toArray,List.set_cons_zero,List.set_cons_succ]
   refine wpAnyH_take (i:=11) (v:=?vb11) rfl (by kernel_rfl) (by kernel_rfl) (by kernel_rfl) (fun _ _ _ h=>h) (Or.inl ⟨by rfl,?hyb11⟩) hHeld ?restb11
   case hyb11=>(intro w hSw;(try dsimp only at hSw);go_simp;try with_reducible rfl)
   try simp only [Act.put,List.getElem_cons_succ,List.getElem_cons_zero,List.getElem_toArray,List.setIfInBounds_toArray,List.set_cons_zero,List.set_cons_succ]
   refine wpAnyH_take (i:=12) (v:=?vb12) rfl (by kernel_rfl) (by kernel_rfl) (by kernel_rfl) (fun _ _ _ h=>h) (Or.inl ⟨by rfl,?hyb12⟩) hHeld ?restb12
   case hyb12=>(intro w hSw;(try dsimp only at hSw);go_simp;try with_reducible rfl)
   try simp only [Act.put,List.getElem_cons_succ,List.getElem_cons_zero,List.getElem_toArray,List.setIfInBounds_toArray,List.set_cons_zero,List.set_cons_succ]
   refine wpAnyH_done (by kernel_rfl) ?_ _
   go_wp2_with fail
   go_ret
   exact ⟨rfl,HP0.out.then hwq.pg⟩
 ·have hgt:(0:Int) < (x.n:Int):=by omega
  unfold smL
  rw [if_pos (by omega),wrL_app]
  have hw2:=wrL_two T0 (seT x.d [] [(quN,[48])] (Rl.pText x.mn)) (seT x.d [] [(quN,[49])] (Rl.pText x.mx))
  replace HQ0:=hid_of (fun W=>HQ0.out T0 W HT0.out)
  rw [hw2]
  clear hw2 hN
  by_cases hA:fitB (T0++seT x.d [] [(quN,[48])] (Rl.pText x.mn))=true
  ·replace HQ1:=hid_of (fun W=>HQ1.out (T0++seT x.d [] [(quN,[48])] (Rl.pText x.mn)) W hA)
   rw [hA] at HQ0 ⊢
   simp only [if_true]
   clear hA
   generalize T0++seT x.d [] [(quN,[48])] (Rl.pText x.mn)=T1 at *
   by_cases hB:fitB (T1++seT x.d [] [(quN,[49])] (Rl.pText x.mx))=true
   ·have HT2:=hid_of hB
    rw [hB] at HQ1 ⊢
    simp only [if_true]
    clear hB
    generalize T1++seT x.d [] [(quN,[49])] (Rl.pText x.mx)=T2 at *
    have hfT:=HT2.out
    replace H3:=hid_of (fun W=>H3.out T2 W hfT)
    rw [wrL_two]
    by_cases hS:fitB (T2++seT x.d suE [] (Rl.pText x.sum))=true
    ·replace H4:=hid_of (fun W=>H4.out (T2++seT x.d suE [] (Rl.pText x.sum)) W hS)
     rw [hS] at H3 ⊢
     simp only [if_true]
     clear hS hfT
     generalize T2++seT x.d suE [] (Rl.pText x.sum)=T3 at *
     generalize T3++seT x.d coE [] (Lib.decDigits x.n)=T4 at *
     generalize Rl.pText x.sum=D at *
     go_enter Tryz.func50,Tryz.ntmps50
     go_upto_region 1 with fail
     rw [← HW0.out]
     clear HW0
     obtain ⟨d0,d1,d2,d3,d4,d5,d6,d7,d8,d9,da⟩:=HKq.out _ _ HI0.out
     go_upto_region 3 with (first | (go_at_call 87;refine Calls.mono (HQ0.out _ HI0.out) ?_;rintro e wa ⟨rfl,ha⟩;have HA:=hid_of ha;obtain ⟨d0,d1,d2,d3,d4,d5,d6,d7,d8,d9,da⟩:=HKq.out _ _ ha;clear ha HQ0) | (go_at_call 87;refine Calls.mono (HQ1.out _ HA.out) ?_;rintro e wb ⟨rfl,hb⟩;have HB:=hid_of hb;clear hb HQ1))
     clear d0 d1 d2 d3 d4 d5 d6 d7 d8 d9 da
     refine wp_region_held_drew (S:=fun W=>cB w.heap.size x (.slice ao x.d.labels.length cap) (.slice co x.cs.length ccap) W) (by kernel_rfl) (HKq.out _ _ (HB.out.below (belD (Below.refl _ _)))) (fun hHeld=>?_)
     refine wpAnyH_take (i:=0) (v:=?vc0) rfl (by kernel_rfl) (by kernel_rfl) (by kernel_rfl) (fun _ _ _ h=>h) (Or.inl ⟨by rfl,?hyc0⟩) hHeld ?restc0
     case hyc0=>(intro w hSw;(try dsimp only at hSw);go_simp;try with_reducible rfl)
     try simp only [Act.put,List.getElem_cons_zero,List.getElem_toArray,List.setIfInBounds_toArray,List.set_cons_zero,List.set_cons_succ]
     refine wpAnyH_take (i:=1) (v:=?vc1) rfl (by kernel_rfl) (by kernel_rfl) (by kernel_rfl) (fun _ _ _ h=>h) (Or.inl ⟨by rfl,?hyc1⟩) hHeld ?restc1
     case hyc1=>(intro w hSw;(try dsimp only at hSw);go_simp;try with_reducible rfl)
     try simp only [Act.put,List.getElem_cons_succ,List.getElem_cons_zero,List.getElem_toArray,List.setIfInBounds_toArray,List.set_cons_zero,List.set_cons_succ]
     refine wpAnyH_take (i:=2) (v:=?vc2) rfl (by kernel_rfl) (by kernel_rfl) (by kernel_rfl) (fun _ _ _ h=>h) (Or.inl ⟨by rfl,?hyc2⟩) hHeld ?restc2
     case hyc2=>(intro w hSw;(try dsimp only at hSw);go_simp;try with_reducible rfl)
     try simp only [Act.put,List.getElem_cons_succ,List.getElem_cons_zero,List.getElem_toArray,List.setIfInBounds_toArray,List.set_cons_zero,List.set_cons_succ]
     refine wpAnyH_take (i:=3) (v:=?vc3) rfl (by kernel_rfl) (by kernel_rfl) (by kernel_rfl) (fun _ _ _ h=>h) (Or.inl ⟨by rfl,?hyc3⟩) hHeld ?restc3
     case hyc3=>(intro w hSw;(try dsimp only at hSw);go_simp;try with_reducible rfl)
     try simp only [Act.put,List.getElem_cons_succ,List.getElem_cons_zero,List.getElem_toArray,List.setIfInBounds_toArray,List.set_cons_zero,List.set_cons_succ]
     refine wpAnyH_take (i:=4) (v:=?vc4) rfl (by kernel_rfl) (by kernel_rfl) (by kernel_rfl) (fun _ _ _ h=>h) (Or.inl ⟨by rfl,?hyc4⟩) hHeld ?restc4
     case hyc4=>(intro w hSw;(try dsimp only at hSw);go_simp;try with_reducible rfl)
     try simp only [Act.put,List.getElem_cons_succ,List.getElem_cons_zero,List.getElem_toArray,List.setIfInBounds_toArray,List.set_cons_zero,List.set_cons_succ]
     refine wpAnyH_ready (rs:=[5]) (by kernel_rfl) (by simp) ?_
     refine AllReadyH.cons rfl (fun K hK=>?_) AllReadyH.nil
     go_simp
     refine Calls.mono (H3p.out _ _ (HB.out.below (belD (Below.refl _ _)))) ?_
     rintro e wp ⟨rfl,hbp⟩
     have hwp:=(HB.out.below (belD (Below.refl _ _))).below hbp
     go_wp2_with fail
     refine hK.out _ _ ?_ (fun hHeld=>?_)
     ·exact HKq.out _ _ hwp
     clear hK K
     try simp only [Act.put,List.getElem_cons_succ,List.getElem_cons_zero,List.getElem_toArray,List.setIfInBounds_toArray,List.set_cons_zero,List.set_cons_succ]
     refine wpAnyH_ready (rs:=[6]) (by kernel_rfl) (by simp) ?_
     refine AllReadyH.cons rfl (fun K hK=>?_) AllReadyH.nil
     go_simp
     refine Calls.mono (H3.out _ hwp) ?_
     rintro e wq ⟨rfl,hwq⟩
     go_wp2_with fail
     refine hK.out _ _ ?_ (fun hHeld=>?_)
     ·exact HKq.out _ _ hwq
     clear hK K
     try simp only [Act.put,List.getElem_cons_succ,List.getElem_cons_zero,List.getElem_toArray,List.setIfInBounds_toArray,List.set_cons_zero,List.set_cons_succ]
     refine wpAnyH_take (i:=7) (v:=?vc7) rfl (by kernel_rfl) (by kernel_rfl) (by kernel_rfl) (fun _ _ _ h=>h) (Or.inl ⟨by rfl,?hyc7⟩) hHeld ?restc7
     case hyc7=>(intro w hSw;(try dsimp only at hSw);go_simp;try with_reducible rfl)
     try simp only [Act.put,List.getElem_cons_succ,List.getElem_cons_zero,List.getElem_toArray,List.setIfInBounds_toArray,List.set_cons_zero,List.set_cons_succ]
     refine wpAnyH_take (i:=8) (v:=?vc8) rfl (by kernel_rfl) (by kernel_rfl) (by kernel_rfl) (fun _ _ _ h=>h) (Or.inl ⟨by rfl,?hyc8⟩) hHeld ?restc8
     case hyc8=>(intro w hSw;(try dsimp only at hSw);go_simp;try with_reducible rfl)
     try simp only [Act.put,List.getElem_cons_succ,List.getElem_cons_zero,List.getElem_toArray,List.setIfInBounds_toArray,List.set_cons_zero,List.set_cons_succ]
     refine wpAnyH_take (i:=9) (v:=?vc9) rfl (by kernel_rfl) (by kernel_rfl) (by kernel_rfl) (fun _ _ _ h=>h) (Or.inl ⟨by rfl,?hyc9⟩) hHeld ?restc9
     case hyc9=>(intro w hSw;(try dsimp only at hSw);go_simp;try with_reducible rfl)
     try simp only [Act.put,List.getElem_cons_succ,List.getElem_cons_zero,List.getElem_toArray,List.setIfInBounds_toArray,List.set_cons_zero,List.set_cons_succ]
     refine wpAnyH_ready (rs:=[10]) (by kernel_rfl) (by simp) ?_
     refine AllReadyH.cons rfl (fun K hK=>?_) AllReadyH.nil
     go_simp
     refine Calls.mono (H4.out _ hwq) ?_
     rintro e wr ⟨rfl,hwr⟩
     go_wp2_with fail
     refine hK.out _ _ ?_ (fun hHeld=>?_)
     ·exact HKq.out _ _ hwr
     clear hK K
     try simp only [Act.put,List.getElem_cons_succ,List.getElem_cons_zero,List.getElem_toArray,List.setIfInBounds_toArray,List.set_cons_zero,List.set_cons_succ]
     refine wpAnyH_take (i:=11) (v:=?vc11) rfl (by kernel_rfl) (by kernel_rfl) (by kernel_rfl) (fun _ _ _ h=>h) (Or.inl ⟨by rfl,?hyc11⟩) hHeld ?restc11
     case hyc11=>(intro w hSw;(try dsimp only at hSw);go_simp;try with_reducible rfl)
     try simp only [Act.put,List.getElem_cons_succ,List.getElem_cons_zero,List.getElem_toArray,List.setIfInBounds_toArray,List.set_cons_zero,List.set_cons_succ]
     refine wpAnyH_take (i:=12) (v:=?vc12) rfl (by kernel_rfl) (by kernel_rfl) (by kernel_rfl) (fun _ _ _ h=>h) (Or.inl ⟨by rfl,?hyc12⟩) hHeld ?restc12
     case hyc12=>(intro w hSw;(try dsimp only at hSw);go_simp;try with_reducible rfl)
     try simp only [Act.put,List.getElem_cons_succ,List.getElem_cons_zero,List.getElem_toArray,List.setIfInBounds_toArray,List.set_cons_zero,List.set_cons_succ]
     refine wpAnyH_done (by kernel_rfl) ?_ _
     go_wp2_with fail
     go_ret
     exact ⟨rfl,HP0.out.then hwr.pg⟩
    ·simp only [Bool.not_eq_true] at hS
     rw [hS] at H3 ⊢
     simp only [Bool.false_eq_true,if_false]
     clear hS H4 hfT
     generalize T2++seT x.d suE [] (Rl.pText x.sum)=T3 at *
     generalize Rl.pText x.sum=D at *
     go_enter Tryz.func50,Tryz.ntmps50
     go_upto_region 1 with fail
     rw [← HW0.out]
     clear HW0
     obtain ⟨d0,d1,d2,d3,d4,d5,d6,d7,d8,d9,da⟩:=HKq.out _ _ HI0.out
     go_upto_region 3 with (first | (go_at_call 87;refine Calls.mono (HQ0.out _ HI0.out) ?_;rintro e wa ⟨rfl,ha⟩;have HA:=hid_of ha;obtain ⟨d0,d1,d2,d3,d4,d5,d6,d7,d8,d9,da⟩:=HKq.out _ _ ha;clear ha HQ0) | (go_at_call 87;refine Calls.mono (HQ1.out _ HA.out) ?_;rintro e wb ⟨rfl,hb⟩;have HB:=hid_of hb;clear hb HQ1))
     clear d0 d1 d2 d3 d4 d5 d6 d7 d8 d9 da
     refine wp_region_held_drew (S:=fun W=>cB w.heap.size x (.slice ao x.d.labels.length cap) (.slice co x.cs.length ccap) W) (by kernel_rfl) (HKq.out _ _ (HB.out.below (belD (Below.refl _ _)))) (fun hHeld=>?_)
     refine wpAnyH_take (i:=0) (v:=?vd0) rfl (by kernel_rfl) (by kernel_rfl) (by kernel_rfl) (fun _ _ _ h=>h) (Or.inl ⟨by rfl,?hyd0⟩) hHeld ?restd0
     case hyd0=>(intro w hSw;(try dsimp only at hSw);go_simp;try with_reducible rfl)
     try simp only [Act.put,List.getElem_cons_zero,List.getElem_toArray,List.setIfInBounds_toArray,List.set_cons_zero,List.set_cons_succ]
     refine wpAnyH_take (i:=1) (v:=?vd1) rfl (by kernel_rfl) (by kernel_rfl) (by kernel_rfl) (fun _ _ _ h=>h) (Or.inl ⟨by rfl,?hyd1⟩) hHeld ?restd1
     case hyd1=>(intro w hSw;(try dsimp only at hSw);go_simp;try with_reducible rfl)
     try simp only [Act.put,List.getElem_cons_succ,List.getElem_cons_zero,List.getElem_toArray,List.setIfInBounds_toArray,List.set_cons_zero,List.set_cons_succ]
     refine wpAnyH_take (i:=2) (v:=?vd2) rfl (by kernel_rfl) (by kernel_rfl) (by kernel_rfl) (fun _ _ _ h=>h) (Or.inl ⟨by rfl,?hyd2⟩) hHeld ?restd2
     case hyd2=>(intro w hSw;(try dsimp only at hSw);go_simp;try with_reducible rfl)
     try simp only [Act.put,List.getElem_cons_succ,List.getElem_cons_zero,List.getElem_toArray,List.setIfInBounds_toArray,List.set_cons_zero,List.set_cons_succ]
     refine wpAnyH_take (i:=3) (v:=?vd3) rfl (by kernel_rfl) (by kernel_rfl) (by kernel_rfl) (fun _ _ _ h=>h) (Or.inl ⟨by rfl,?hyd3⟩) hHeld ?restd3
     case hyd3=>(intro w hSw;(try dsimp only at hSw);go_simp;try with_reducible rfl)
     try simp only [Act.put,List.getElem_cons_succ,List.getElem_cons_zero,List.getElem_toArray,List.setIfInBounds_toArray,List.set_cons_zero,List.set_cons_succ]
     refine wpAnyH_take (i:=4) (v:=?vd4) rfl (by kernel_rfl) (by kernel_rfl) (by kernel_rfl) (fun _ _ _ h=>h) (Or.inl ⟨by rfl,?hyd4⟩) hHeld ?restd4
     case hyd4=>(intro w hSw;(try dsimp only at hSw);go_simp;try with_reducible rfl)
     try simp only [Act.put,List.getElem_cons_succ,List.getElem_cons_zero,List.getElem_toArray,List.setIfInBounds_toArray,List.set_cons_zero,List.set_cons_succ]
     refine wpAnyH_ready (rs:=[5]) (by kernel_rfl) (by simp) ?_
     refine AllReadyH.cons rfl (fun K hK=>?_) AllReadyH.nil
     go_simp
     refine Calls.mono (H3p.out _ _ (HB.out.below (belD (Below.refl _ _)))) ?_
     rintro e wp ⟨rfl,hbp⟩
     have hwp:=(HB.out.below (belD (Below.refl _ _))).below hbp
     go_wp2_with fail
     refine hK.out _ _ ?_ (fun hHeld=>?_)
     ·exact HKq.out _ _ hwp
     clear hK K
     try simp only [Act.put,List.getElem_cons_succ,List.getElem_cons_zero,List.getElem_toArray,List.setIfInBounds_toArray,List.set_cons_zero,List.set_cons_succ]
     refine wpAnyH_ready (rs:=[6]) (by kernel_rfl) (by simp) ?_
     refine AllReadyH.cons rfl (fun K hK=>?_) AllReadyH.nil
     go_simp
     refine Calls.mono (H3.out _ hwp) ?_
     rintro e wq ⟨rfl,hwq⟩
     go_wp2_with fail
     refine hK.out _ _ ?_ (fun hHeld=>?_)
     ·exact HKq.out _ _ hwq
     clear hK K
     try simp only [Act.put,List.getElem_cons_succ,List.getElem_cons_zero,List.getElem_toArray,List.setIfInBounds_toArray,List.set_cons_zero,List.set_cons_succ]
     refine wpAnyH_take (i:=7) (v:=?vd7) rfl (by kernel_rfl) (by kernel_rfl) (by kernel_rfl) (fun _ _ _ h=>h) (Or.inl ⟨by rfl,?hyd7⟩) hHeld ?restd7
     case hyd7=>(intro w hSw;(try dsimp only at hSw);go_simp;try with_reducible rfl)
     try simp only [Act.put,List.getElem_cons_succ,List.getElem_cons_zero,List.getElem_toArray,List.setIfInBounds_toArray,List.set_cons_zero,List.set_cons_succ]
     refine wpAnyH_take (i:=8) (v:=undef) rfl (by kernel_rfl) (by kernel_rfl) (by kernel_rfl) (fun _ _ _ h=>h) (Or.inr ⟨by rfl,rfl⟩) hHeld ?_
     try simp only [Act.put,List.getElem_cons_succ,List.getElem_cons_zero,List.getElem_toArray,List.setIfInBounds_toArray,List.set_cons_zero,List.set_cons_succ]
     refine wpAnyH_take (i:=9) (v:=undef) rfl (by kernel_rfl) (by kernel_rfl) (by kernel_rfl) (fun _ _ _ h=>h) (Or.inr ⟨by rfl,rfl⟩) hHeld ?_
     try simp only [Act.put,List.getElem_cons_succ,List.getElem_cons_zero,List.getElem_toArray,List.setIfInBounds_toArray,List.set_cons_zero,List.set_cons_succ]
     refine wpAnyH_take (i:=10) (v:=undef) rfl (by kernel_rfl) (by kernel_rfl) (by kernel_rfl) (fun _ _ _ h=>h) (Or.inr ⟨by rfl,rfl⟩) hHeld ?_
     try simp only [Act.put,List.getElem_cons_succ,List.getElem_cons_zero,List.getElem_toArray,List.setIfInBounds_toArray,List.set_cons_zero,List.set_cons_succ]
     refine wpAnyH_take (i:=11) (v:=?vd11) rfl (by kernel_rfl) (by kernel_rfl) (by kernel_rfl) (fun _ _ _ h=>h) (Or.inl ⟨by rfl,?hyd11⟩) hHeld ?restd11
     case hyd11=>(intro w hSw;(try dsimp only at hSw);go_simp;try with_reducible rfl)
     try simp only [Act.put,List.getElem_cons_succ,List.getElem_cons_zero,List.getElem_toArray,List.setIfInBounds_toArray,List.set_cons_zero,List.set_cons_succ]
     refine wpAnyH_take (i:=12) (v:=?vd12) rfl (by kernel_rfl) (by kernel_rfl) (by kernel_rfl) (fun _ _ _ h=>h) (Or.inl ⟨by rfl,?hyd12⟩) hHeld ?restd12
     case hyd12=>(intro w hSw;(try dsimp only at hSw);go_simp;try with_reducible rfl)
     try simp only [Act.put,List.getElem_cons_succ,List.getElem_cons_zero,List.getElem_toArray,List.setIfInBounds_toArray,List.set_cons_zero,List.set_cons_succ]
     refine wpAnyH_done (by kernel_rfl) ?_ _
     go_wp2_with fail
     go_ret
     exact ⟨rfl,HP0.out.then hwq.pg⟩
   ·simp only [Bool.not_eq_true] at hB
    rw [hB] at HQ1 ⊢
    simp only [Bool.false_eq_true,if_false]
    clear hB H3 H4 H3p
    generalize T1++seT x.d [] [(quN,[49])] (Rl.pText x.mx)=T2 at *
    go_enter Tryz.func50,Tryz.ntmps50
    go_upto_region 1 with fail
    rw [← HW0.out]
    clear HW0
    obtain ⟨d0,d1,d2,d3,d4,d5,d6,d7,d8,d9,da⟩:=HKq.out _ _ HI0.out
    go_wp2_with (first | (go_at_call 87;refine Calls.mono (HQ0.out _ HI0.out) ?_;rintro e wa ⟨rfl,ha⟩;have HA:=hid_of ha;obtain ⟨d0,d1,d2,d3,d4,d5,d6,d7,d8,d9,da⟩:=HKq.out _ _ ha;clear ha HQ0) | (go_at_call 87;refine Calls.mono (HQ1.out _ HA.out) ?_;rintro e wb ⟨rfl,hb⟩;have HB:=hid_of hb;clear hb HQ1))
    go_ret
    exact ⟨rfl,HP0.out.then HB.out.pg⟩
  ·simp only [Bool.not_eq_true] at hA
   rw [hA] at HQ0 ⊢
   simp only [Bool.false_eq_true,if_false]
   clear hA H3 H4 H3p HQ1
   generalize T0++seT x.d [] [(quN,[48])] (Rl.pText x.mn)=T1 at *
   go_enter Tryz.func50,Tryz.ntmps50
   go_upto_region 1 with fail
   rw [← HW0.out]
   clear HW0
   obtain ⟨d0,d1,d2,d3,d4,d5,d6,d7,d8,d9,da⟩:=HKq.out _ _ HI0.out
   go_wp2_with (go_at_call 87;refine Calls.mono (HQ0.out _ HI0.out) ?_;rintro e wa ⟨rfl,ha⟩;have HA:=hid_of ha;obtain ⟨d0,d1,d2,d3,d4,d5,d6,d7,d8,d9,da⟩:=HKq.out _ _ ha;clear ha HQ0)
   go_ret
   exact ⟨rfl,HP0.out.then HA.out.pg⟩
end Go.Proofs.YtfkbjdgbpenflaaGreatDoor
