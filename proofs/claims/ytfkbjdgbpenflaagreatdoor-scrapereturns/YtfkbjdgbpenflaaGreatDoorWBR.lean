/- THE PAGE: lines one behind the other; numbers; bucket, count, counter, family, head. Own work of the verifier. -/
import Derived.Test.YtfkbjdgbpenflaaGreatDoorWBP
import Derived.Test.YtfkbjdgbpenflaaGreatDoorWAQ
import Derived.Deep.RegionHeld3
import Derived.MapKept
import Derived.Maps.Own
set_option maxRecDepth 100000
set_option maxHeartbeats 1000000
namespace Go.Proofs.YtfkbjdgbpenflaaGreatDoor
open Go.RowKit Me
def wrL (T:List UInt8):List (List UInt8)→List UInt8 × Bool
 | []=>(T,true)
 | l::r=>if fitB (T++l) then wrL (T++l) r else (T++l,false)
theorem wrL_app (A C:List (List UInt8)):∀ T,wrL T (A++C)=if (wrL T A).2 then wrL (wrL T A).1 C else wrL T A:=by
 induction A with
 | nil=>intro T;simp [wrL]
 | cons l r ih =>
  intro T
  simp only [List.cons_append,wrL]
  split
  ·exact ih _
  ·rename_i h;simp
theorem wrL_one (T l:List UInt8):wrL T [l]=(T++l,fitB (T++l)):=by
 simp only [wrL]
 split
 ·rename_i h;rw [h]
 ·rename_i h;simp only [Bool.not_eq_true] at h;rw [h]
theorem wrL_fit (A:List (List UInt8)):∀ T,fitB T=true→(wrL T A).2=true→fitB (wrL T A).1=true:=by
 induction A with
 | nil=>intro T h _;exact h
 | cons l r ih =>
  intro T h
  simp only [wrL]
  split
  ·rename_i k;exact ih _ k
  ·intro k;cases k
theorem wrL_flat (A:List (List UInt8)):∀ T,(wrL T A).2=true→(wrL T A).1=T++A.flatten:=by
 induction A with
 | nil=>intro T _;simp [wrL]
 | cons l r ih =>
  intro T
  simp only [wrL]
  split
  ·intro k;rw [ih _ k];simp
  ·intro k;cases k
theorem wrL_all (A:List (List UInt8)):∀ T,(wrL T A).2=true ↔ A=[]∨fitB (T++A.flatten)=true:=by
 induction A with
 | nil=>intro T;simp [wrL]
 | cons l r ih =>
  intro T
  simp only [wrL]
  have key:fitB (T++(l::r).flatten)=true→fitB (T++l)=true:=by
   unfold fitB
   simp only [decide_eq_true_eq,List.flatten_cons,List.length_append]
   omega
  split
  ·rename_i k
   rw [ih]
   constructor
   ·rintro (rfl | h)
    ·right;simpa using k
    ·right;simpa using h
   ·rintro (h | h)
    ·cases h
    ·right;simpa using h
  ·rename_i k
   constructor
   ·intro h;cases h
   ·rintro (h | h)
    ·cases h
    ·exact absurd (key h) k
theorem fit_len {T:List UInt8} (h:fitB T=true):T.length≤4194304:=by
 unfold fitB at h
 simp only [decide_eq_true_eq] at h
 omega
theorem digits_t (n:Nat) (hn:n < 18446744073709551616) (w:World) (ht:Wi.Tab w) :
  Calls Tryz.prog 23 #[.int .u64 (n:Int)] w fun e w'=>e=.returned (.string ⟨(Lib.decDigits n).toArray⟩)∧Below w.heap.size w w':=by
 have H:La.HidC _ _ _ _ _:=Wi.fmt_any (n:Int) (by omega) (by omega) w ht
 rw [Int.toNat_natCast] at H
 go_enter Tryz.func23,Tryz.ntmps23
 go_wp2_with fail
 refine (H.out).mono ?_
 rintro e w1 ⟨rfl,hb⟩
 go_wp2_with fail
 go_ret
 exact ⟨rfl,hb⟩
theorem digits_len (n:Nat) (hn:n < 18446744073709551616):(Lib.decDigits n).length≤20:=by
 rw [Lib.decDigits_length]
 exact Wi.nDigits_le_pow 19 n (by rw [show (10:Nat) ^ (19+1)=100000000000000000000 from by decide];omega)
abbrev leN:List UInt8:=[108,101]
theorem belN {a w:World} (o:Obj) (h:Below a.heap.size a w):Below a.heap.size a (w.alloc o):=bt h (bel1 _ _)
theorem belD {a w:World} (h:Below a.heap.size a w):Below a.heap.size a w.drew:=bel_drewB h
abbrev bx4 (b:Nat) (d:La.Ds) (lv:Value) (W:World):Prop:=W.cell? ⟨b,0,none⟩=some (.int .i64 d.kind)∧W.cell? ⟨b,1,none⟩=some (.string ⟨d.name.toArray⟩)∧W.cell? ⟨b,2,none⟩=some (.string ⟨d.help.toArray⟩)∧W.cell? ⟨b,3,none⟩=some lv
theorem bx4_of {W:World} {b:Nat} {d:La.Ds} {lv:Value} (h:W.heap[b]? =some (.cells #[.int .i64 d.kind,.string ⟨d.name.toArray⟩,.string ⟨d.help.toArray⟩,lv] 41)):bx4 b d lv W:=by
 refine ⟨?_,?_,?_,?_⟩ <;> simp [World.cell?,h]
theorem bx4_bel {b:Nat} {d:La.Ds} {lv:Value} {W W1:World} (hb:Below W.heap.size W W1) (h:bx4 b d lv W):bx4 b d lv W1:=⟨cellB hb h.1,cellB hb h.2.1,cellB hb h.2.2.1,cellB hb h.2.2.2⟩
theorem one_lb {W:World} {mb:Nat} {a:La.Lb} (h:W.heap[mb]? =some (.cells #[.string ⟨a.1.toArray⟩,.string ⟨a.2.toArray⟩] 85)):SLb W (.slice (some ⟨mb,0,none⟩) 1 1) [a] :=
 Or.inr (Or.inl ⟨mb,0,1,rfl,by simp,by omega,fun i hi=>by
  obtain rfl:i=0:=by simpa using hi
  exact ⟨by simp [World.cell?,h],by simp [World.cell?,h]⟩⟩)
theorem bucket_any (u:World) (pb:Nat) (p:Int) (T:List UInt8) (d:La.Ds) (lv:Value) (le:List UInt8) (n:Nat) (w:World) (h:Pg u pb w p T w) (ht:Wi.Tab u) (hl:SLb u lv d.labels) (hs:Sho d [(leN,le)]) (hn:n < 18446744073709551616) (hT:fitB T=true) :
  Calls Tryz.prog 85 #[.pointer (some ⟨pb,0,none⟩),dsV d lv,.string ⟨le.toArray⟩,.int .u64 (n:Int)] w fun e w'=>e=.returned (.bool (fitB (T++seT d [95,98,117,99,107,101,116] [(leN,le)] (Lib.decDigits n))))∧Pg u pb w p (T++seT d [95,98,117,99,107,101,116] [(leN,le)] (Lib.decDigits n)) w':=by
 have HD:Hid (∀ w W,Pg u pb w p T W→_):=fun w W (k:Pg u pb w p T W)=>digits_t n hn W (ht.below k.st)
 have HS:Hid (∀ w mb W,Pg u pb w p T W→W.heap[mb]? =some (.cells #[.string ⟨leN.toArray⟩,.string ⟨le.toArray⟩] 85)→Calls Tryz.prog 82 #[.pointer (some ⟨pb,0,none⟩),dsV d lv,.string ⟨#[95,98,117,99,107,101,116]⟩,.string ⟨(Lib.decDigits n).toArray⟩,.slice (some ⟨mb,0,none⟩) 1 1] W fun e w'=>e=.returned (.bool (fitB (T++seT d [95,98,117,99,107,101,116] [(leN,le)] (Lib.decDigits n))))∧Pg u pb w p (T++seT d [95,98,117,99,107,101,116] [(leN,le)] (Lib.decDigits n)) w'):=fun w mb W k1 k2=>by
  refine Calls.mono (series_any u pb p T d lv _ [95,98,117,99,107,101,116] (Lib.decDigits n) [(leN,le)] W k1.re hl (one_lb k2) hs (by decide) (by have:=digits_len n hn;omega) (by have:=fit_len hT;omega)) ?_
  rintro e w' ⟨rfl,q⟩
  exact ⟨rfl,k1.then q⟩
 have HP:=hid_of h
 obtain ⟨ao,cap,rfl⟩:=hl.form
 clear h ht hl hs hn hT
 generalize T++seT d [95,98,117,99,107,101,116] [(leN,le)] (Lib.decDigits n)=R at HS ⊢
 generalize Lib.decDigits n=D at HS HD
 go_enter Tryz.func85,Tryz.ntmps85
 go_upto_region 1 with fail
 have hN0:=new_1 w (.cells #[.int .i64 d.kind,.string ⟨d.name.toArray⟩,.string ⟨d.help.toArray⟩,.slice ao d.labels.length cap] 41)
 have HP0:=hid_of (HP.out.alloc (.cells #[.int .i64 d.kind,.string ⟨d.name.toArray⟩,.string ⟨d.help.toArray⟩,.slice ao d.labels.length cap] 41))
 have hne:w.heap.size≠pb:=by have:=HP.out.lt;omega
 generalize w.alloc (.cells #[.int .i64 d.kind,.string ⟨d.name.toArray⟩,.string ⟨d.help.toArray⟩,.slice ao d.labels.length cap] 41)=W0 at *
 have HKp:Hid (∀ W1,Below W0.heap.size W0 W1→bx4 w.heap.size d (.slice ao d.labels.length cap) W1):=fun W1 hb=>bx4_bel hb (bx4_of hN0)
 have HKq:Hid (∀ X W1,Pg u pb W0 p X W1→bx4 w.heap.size d (.slice ao d.labels.length cap) W1):=fun X W1 k=>bx4_of (k.cells hN0 hne (by decide))
 have HPr:=hid_of HP0.out.re
 clear hN0 HP hne
 go_region_held3 (fun W=>bx4 w.heap.size d (.slice ao d.labels.length cap) W)
  (first | (with_reducible exact HKq.out _ _ hPz) | ((with_reducible refine HKp.out _ ?_);repeat (first | with_reducible exact hB9 | with_reducible exact Below.refl _ _ | with_reducible refine belD ?_ | with_reducible refine belN _ ?_)))
  (first
   | (go_at_call 23;(with_reducible refine Calls.mono (HD.out _ _ (HPr.out.below (by repeat (first | with_reducible exact Below.refl _ _ | with_reducible refine belD ?_ | with_reducible refine belN _ ?_)))) ?_);rintro e w9 ⟨rfl,hb9⟩;have hB9:Below W0.heap.size W0 w9:=bt (by repeat (first | with_reducible exact Below.refl _ _ | with_reducible refine belD ?_ | with_reducible refine belN _ ?_)) hb9)
   | (go_at_call 82;(with_reducible refine Calls.mono (HS.out _ _ _ (HPr.out.below (by repeat (first | with_reducible exact hB9 | with_reducible refine belN _ ?_))) (by first | with_reducible exact new_1 _ _ | exact (hb9.block _ (by simp)).trans (new_1 _ _))) ?_);rintro e wz ⟨rfl,hPz⟩))
 all_goals
  go_wp2_with fail
  go_ret
  exact ⟨rfl,HP0.out.then hPz⟩
theorem cB_of {W:World} {b:Nat} {x:Vl} {lv cv:Value} (h:W.heap[b]? =some (.cells (vc x lv cv) 45)):cB b x lv cv W:=by
 refine ⟨?_,?_,?_,?_,?_,?_,?_,?_,?_,?_,?_⟩ <;> simp [World.cell?,h]
theorem cB_bel {b:Nat} {x:Vl} {lv cv:Value} {W W1:World} (hb:Below W.heap.size W W1) (h:cB b x lv cv W):cB b x lv cv W1:=by
 obtain ⟨h0,h1,h2,h3,h4,h5,h6,h7,h8,h9,ha⟩:=h
 exact ⟨cellB hb h0,cellB hb h1,cellB hb h2,cellB hb h3,cellB hb h4,cellB hb h5,cellB hb h6,cellB hb h7,cellB hb h8,cellB hb h9,cellB hb ha⟩
theorem itoa_len {t:Int} (h:InR t):(Lib.itoa t).length≤40:=by
 obtain ⟨h0,h1⟩:=h
 have h3:=Wi.dec_len (Wi.mag t).toNat (by unfold Wi.mag;split <;> omega)
 by_cases k:t < 0
 ·rw [Wi.itoa_neg' k,List.length_cons];omega
 ·rw [Wi.itoa_pos' k];omega
theorem count_any (u:World) (pb:Nat) (p:Int) (T:List UInt8) (x:Vl) (lv cv:Value) (w:World) (h:Pg u pb w p T w) (ht:Wi.Tab u) (hl:SLb u lv x.d.labels) (hc:SN u cv x.cs) (hs:Sho x.d []) (hx:VW x) (hT:fitB T=true) :
  Calls Tryz.prog 86 #[.pointer (some ⟨pb,0,none⟩),vx x lv cv] w fun e w'=>e=.returned (.bool (fitB (T++seT x.d [95,99,111,117,110,116] [] (Lib.decDigits x.n))))∧Pg u pb w p (T++seT x.d [95,99,111,117,110,116] [] (Lib.decDigits x.n)) w':=by
 have HD:Hid (∀ w W,Pg u pb w p T W→Calls Tryz.prog 23 #[.int .u64 (x.n:Int)] W fun e w'=>e=.returned (.string ⟨(Lib.decDigits x.n).toArray⟩)∧Below W.heap.size W w'):=fun w W k=>digits_t x.n hx.n W (ht.below k.st)
 have HS:Hid (∀ w W,Pg u pb w p T W→Calls Tryz.prog 82 #[.pointer (some ⟨pb,0,none⟩),dsV x.d lv,.string ⟨#[95,99,111,117,110,116]⟩,.string ⟨(Lib.decDigits x.n).toArray⟩,.slice none 0 0] W fun e w'=>e=.returned (.bool (fitB (T++seT x.d [95,99,111,117,110,116] [] (Lib.decDigits x.n))))∧Pg u pb w p (T++seT x.d [95,99,111,117,110,116] [] (Lib.decDigits x.n)) w'):=fun w W k1=>by
  refine Calls.mono (series_any u pb p T x.d lv _ [95,99,111,117,110,116] (Lib.decDigits x.n) [] W k1.re hl (Or.inl ⟨rfl,rfl⟩) hs (by decide) (by have:=digits_len x.n hx.n;omega) (by have:=fit_len hT;omega)) ?_
  rintro e w' ⟨rfl,q⟩
  exact ⟨rfl,k1.then q⟩
 have HP:=hid_of h
 obtain ⟨ao,cap,rfl⟩:=hl.form
 obtain ⟨co,ccap,rfl⟩:=SN.form hc
 clear h ht hl hs hx hT hc
 generalize T++seT x.d [95,99,111,117,110,116] [] (Lib.decDigits x.n)=R at HS ⊢
 generalize Lib.decDigits x.n=D at HS HD
 go_enter Tryz.func86,Tryz.ntmps86
 go_upto_region 1 with fail
 have hN0:=new_1 w (.cells (vc x (.slice ao x.d.labels.length cap) (.slice co x.cs.length ccap)) 45)
 have HP0:=hid_of (HP.out.alloc (.cells (vc x (.slice ao x.d.labels.length cap) (.slice co x.cs.length ccap)) 45))
 have hne:w.heap.size≠pb:=by have:=HP.out.lt;omega
 generalize w.alloc (.cells (vc x (.slice ao x.d.labels.length cap) (.slice co x.cs.length ccap)) 45)=W0 at *
 have HKp:Hid (∀ W1,Below W0.heap.size W0 W1→cB w.heap.size x (.slice ao x.d.labels.length cap) (.slice co x.cs.length ccap) W1):=fun W1 hb=>cB_bel hb (cB_of hN0)
 have HKq:Hid (∀ X W1,Pg u pb W0 p X W1→cB w.heap.size x (.slice ao x.d.labels.length cap) (.slice co x.cs.length ccap) W1):=fun X W1 k=>cB_of (k.cells hN0 hne (by decide))
 have HPr:=hid_of HP0.out.re
 clear hN0 HP hne
 go_region_held3 (fun W=>cB w.heap.size x (.slice ao x.d.labels.length cap) (.slice co x.cs.length ccap) W)
  (first | (with_reducible exact HKq.out _ _ hPz) | ((with_reducible refine HKp.out _ ?_);repeat (first | with_reducible exact hB9 | with_reducible exact Below.refl _ _ | with_reducible refine belD ?_ | with_reducible refine belN _ ?_)))
  (first
   | (go_at_call 23;(with_reducible refine Calls.mono (HD.out _ _ (HPr.out.below (by repeat (first | with_reducible exact Below.refl _ _ | with_reducible refine belD ?_ | with_reducible refine belN _ ?_)))) ?_);rintro e w9 ⟨rfl,hb9⟩;have hB9:Below W0.heap.size W0 w9:=bt (by repeat (first | with_reducible exact Below.refl _ _ | with_reducible refine belD ?_ | with_reducible refine belN _ ?_)) hb9)
   | (go_at_call 82;(with_reducible refine Calls.mono (HS.out _ _ (HPr.out.below (by repeat (first | with_reducible exact hB9 | with_reducible refine belN _ ?_)))) ?_);rintro e wz ⟨rfl,hPz⟩))
 all_goals
  go_wp2_with fail
  go_ret
  exact ⟨rfl,HP0.out.then hPz⟩
theorem counter_any (u:World) (pb:Nat) (p:Int) (T:List UInt8) (x:Vl) (lv cv:Value) (w:World) (h:Pg u pb w p T w) (ht:Wi.Tab u) (hl:SLb u lv x.d.labels) (hc:SN u cv x.cs) (hs:Sho x.d []) (hx:VW x) (hT:fitB T=true) :
  Calls Tryz.prog 48 #[.pointer (some ⟨pb,0,none⟩),vx x lv cv] w fun e w'=>e=.returned (.bool (fitB (T++seT x.d [] [] (Lib.itoa x.t))))∧Pg u pb w p (T++seT x.d [] [] (Lib.itoa x.t)) w':=by
 have HD:Hid (∀ w W,Pg u pb w p T W→Calls Tryz.prog 83 #[.agg #[.int .i64 (hiOf x.t),.int .u64 (loOf x.t)]] W fun e w'=>e=.returned (.string ⟨(Lib.itoa x.t).toArray⟩)∧Below W.heap.size W w'):=fun w W k=>by have q:=Wi.print_any _ _ (wf_of hx.t) W (ht.below k.st);rw [val_hl] at q;exact q
 have HS:Hid (∀ w W,Pg u pb w p T W→Calls Tryz.prog 82 #[.pointer (some ⟨pb,0,none⟩),dsV x.d lv,.string ⟨#[]⟩,.string ⟨(Lib.itoa x.t).toArray⟩,.slice none 0 0] W fun e w'=>e=.returned (.bool (fitB (T++seT x.d [] [] (Lib.itoa x.t))))∧Pg u pb w p (T++seT x.d [] [] (Lib.itoa x.t)) w'):=fun w W k1=>by
  refine Calls.mono (series_any u pb p T x.d lv _ [] (Lib.itoa x.t) [] W k1.re hl (Or.inl ⟨rfl,rfl⟩) hs (by decide) (by have:=itoa_len hx.t;omega) (by have:=fit_len hT;omega)) ?_
  rintro e w' ⟨rfl,q⟩
  exact ⟨rfl,k1.then q⟩
 have HP:=hid_of h
 obtain ⟨ao,cap,rfl⟩:=hl.form
 obtain ⟨co,ccap,rfl⟩:=SN.form hc
 clear h ht hl hs hx hT hc
 generalize T++seT x.d [] [] (Lib.itoa x.t)=R at HS ⊢
 generalize Lib.itoa x.t=D at HS HD
 go_enter Tryz.func48,Tryz.ntmps48
 go_upto_region 1 with fail
 have hN0:=new_1 w (.cells (vc x (.slice ao x.d.labels.length cap) (.slice co x.cs.length ccap)) 45)
 have HP0:=hid_of (HP.out.alloc (.cells (vc x (.slice ao x.d.labels.length cap) (.slice co x.cs.length ccap)) 45))
 have hne:w.heap.size≠pb:=by have:=HP.out.lt;omega
 generalize w.alloc (.cells (vc x (.slice ao x.d.labels.length cap) (.slice co x.cs.length ccap)) 45)=W0 at *
 have HKp:Hid (∀ W1,Below W0.heap.size W0 W1→cB w.heap.size x (.slice ao x.d.labels.length cap) (.slice co x.cs.length ccap) W1):=fun W1 hb=>cB_bel hb (cB_of hN0)
 have HKq:Hid (∀ X W1,Pg u pb W0 p X W1→cB w.heap.size x (.slice ao x.d.labels.length cap) (.slice co x.cs.length ccap) W1):=fun X W1 k=>cB_of (k.cells hN0 hne (by decide))
 have HPr:=hid_of HP0.out.re
 clear hN0 HP hne
 go_region_held3 (fun W=>cB w.heap.size x (.slice ao x.d.labels.length cap) (.slice co x.cs.length ccap) W)
  (first | (with_reducible exact HKq.out _ _ hPz) | ((with_reducible refine HKp.out _ ?_);repeat (first | with_reducible exact hB9 | with_reducible exact Below.refl _ _ | with_reducible refine belD ?_ | with_reducible refine belN _ ?_)))
  (first
   | (go_at_call 83;(with_reducible refine Calls.mono (HD.out _ _ (HPr.out.below (by repeat (first | with_reducible exact Below.refl _ _ | with_reducible refine belD ?_ | with_reducible refine belN _ ?_)))) ?_);rintro e w9 ⟨rfl,hb9⟩;have hB9:Below W0.heap.size W0 w9:=bt (by repeat (first | with_reducible exact Below.refl _ _ | with_reducible refine belD ?_ | with_reducible refine belN _ ?_)) hb9)
   | (go_at_call 82;(with_reducible refine Calls.mono (HS.out _ _ (HPr.out.below (by repeat (first | with_reducible exact hB9 | with_reducible refine belN _ ?_)))) ?_);rintro e wz ⟨rfl,hPz⟩))
 all_goals
  go_wp2_with fail
  go_ret
  exact ⟨rfl,HP0.out.then hPz⟩
def kdT (k:Int):List UInt8:=if k=1 then [99,111,117,110,116,101,114] else if k=2 then [104,105,115,116,111,103,114,97,109] else [115,117,109,109,97,114,121]
theorem typeOf_any (k:Int) (w:World):Calls Tryz.prog 52 #[.int .i64 k] w fun e w'=>e=.returned (.string ⟨(kdT k).toArray⟩)∧w'=w:=by
 unfold kdT
 by_cases h1:k=1
 ·subst h1
  go_enter Tryz.func52,Tryz.ntmps52
  go_wp2_with fail
  go_ret
  exact ⟨rfl,rfl⟩
 ·by_cases h2:k=2
  ·subst h2
   go_enter Tryz.func52,Tryz.ntmps52
   go_wp2_with fail
   go_ret
   exact ⟨rfl,rfl⟩
  ·rw [if_neg h1,if_neg h2]
   have h1':(k == 1)=false:=by rw [beq_eq_false_iff_ne];exact h1
   have h2':(k == 2)=false:=by rw [beq_eq_false_iff_ne];exact h2
   go_enter Tryz.func52,Tryz.ntmps52
   go_wp2_with fail
   go_ret
   exact ⟨rfl,rfl⟩
theorem kdT_len (k:Int):(kdT k).length≤9:=by unfold kdT;split <;> (try split) <;> simp
theorem wrL_two (T a b:List UInt8):wrL T [a,b]=if fitB (T++a) then (T++a++b,fitB (T++a++b)) else (T++a,false):=by
 have e:=wrL_one (T++a) b
 rw [wrL]
 split
 ·exact e
 ·rfl
abbrev heA:List UInt8:=[35,32,72,69,76,80,32]
abbrev tyA:List UInt8:=[35,32,84,89,80,69,32]
def heT (d:La.Ds):List UInt8:=lnT [heA,d.name,[32],La.escL false d.help]
def tyT (d:La.Ds):List UInt8:=lnT [tyA,d.name,[32],kdT d.kind]
theorem heT_len {d:La.Ds} {M:List La.Lb} (h:Sho d M):(heT d).length≤10000∧(tyT d).length≤10000:=by
 have h1:=h.n
 have h2:=h.h
 have h3:=escL_len false d.help
 have h4:=kdT_len d.kind
 unfold heT tyT lnT
 simp only [List.flatten_cons,List.flatten_nil,List.length_append,List.length_cons,List.length_nil]
 omega
theorem family_yes (u:World) (pb:Nat) (p:Int) (T:List UInt8) (d:La.Ds) (lv:Value) (M:List La.Lb) (w:World) (h:Pg u pb w p T w) (hl:SLb u lv d.labels) (hs:Sho d M) (hT:fitB T=true) (hf:fitB (T++heT d)=true) :
  Calls Tryz.prog 25 #[.pointer (some ⟨pb,0,none⟩),dsV d lv] w fun e w'=>e=.returned (.bool (wrL T [heT d,tyT d]).2)∧Pg u pb w p (wrL T [heT d,tyT d]).1 w':=by
 have hlen:=heT_len hs
 have HH:Hid (∀ W,Calls Tryz.prog 51 #[.string ⟨d.help.toArray⟩] W fun e w'=>e=.returned (.string ⟨(La.escL false d.help).toArray⟩)∧Below W.heap.size W w'):=fun W=>La.chelp_any d.help (by have:=escL_len false d.help;have:=hs.h;omega) (by have:=hs.h;omega) W
 have HL1:Hid (∀ w sb W,Pg u pb w p T W→W.heap[sb]? =some (.cells #[.string ⟨#[35,32,72,69,76,80,32]⟩,.string ⟨d.name.toArray⟩,.string ⟨#[32]⟩,.string ⟨(La.escL false d.help).toArray⟩] 9)→Calls Tryz.prog 21 #[.pointer (some ⟨pb,0,none⟩),.slice (some ⟨sb,0,none⟩) 4 4] W fun e w'=>e=.returned (.bool (fitB (T++heT d)))∧Pg u pb w p (T++heT d) w') :=
  fun w sb W h1 h2=>by
   have q:=line_any u pb sb 4 p [heA,d.name,[32],La.escL false d.help] T W h1.re h2 (by simp) (by rw [← heT];have:=fit_len hT;omega)
   rw [← heT] at q
   refine Calls.mono q ?_
   rintro e w' ⟨rfl,q⟩
   exact ⟨rfl,h1.then q⟩
 have HL2:fitB (T++heT d)=true→Hid (∀ w sb W,Pg u pb w p (T++heT d) W→W.heap[sb]? =some (.cells #[.string ⟨#[35,32,84,89,80,69,32]⟩,.string ⟨d.name.toArray⟩,.string ⟨#[32]⟩,.string ⟨(kdT d.kind).toArray⟩] 9)→Calls Tryz.prog 21 #[.pointer (some ⟨pb,0,none⟩),.slice (some ⟨sb,0,none⟩) 4 4] W fun e w'=>e=.returned (.bool (fitB (T++heT d++tyT d)))∧Pg u pb w p (T++heT d++tyT d) w') :=
  fun hf w sb W h1 h2=>by
   have q:=line_any u pb sb 4 p [tyA,d.name,[32],kdT d.kind] (T++heT d) W h1.re h2 (by simp) (by rw [← tyT];have:=fit_len hf;omega)
   rw [← tyT] at q
   refine Calls.mono q ?_
   rintro e w' ⟨rfl,q⟩
   exact ⟨rfl,h1.then q⟩
 have HTy:Hid (∀ W,_):=fun W=>typeOf_any d.kind W
 have HP:=hid_of h
 obtain ⟨ao,cap,rfl⟩:=hl.form
 have hwr:=wrL_two T (heT d) (tyT d)
 rw [hwr]
 clear h hl hs hlen hT hwr
 have HL2':=HL2 hf
 rw [hf] at HL1 ⊢
 clear HL2 hf
 generalize T++heT d++tyT d=R2 at HL2' ⊢
 generalize T++heT d=R1 at HL1 HL2' ⊢
 generalize La.escL false d.help=D at HL1 HH
 generalize kdT d.kind=K at HL2' HTy
 go_enter Tryz.func25,Tryz.ntmps25
 go_upto_region 1 with fail
 have hN0:=new_1 w (.cells #[.int .i64 d.kind,.string ⟨d.name.toArray⟩,.string ⟨d.help.toArray⟩,.slice ao d.labels.length cap] 41)
 have HP0:=hid_of (HP.out.alloc (.cells #[.int .i64 d.kind,.string ⟨d.name.toArray⟩,.string ⟨d.help.toArray⟩,.slice ao d.labels.length cap] 41))
 have hne:w.heap.size≠pb:=by have:=HP.out.lt;omega
 generalize w.alloc (.cells #[.int .i64 d.kind,.string ⟨d.name.toArray⟩,.string ⟨d.help.toArray⟩,.slice ao d.labels.length cap] 41)=W0 at *
 have HKp:Hid (∀ W1,Below W0.heap.size W0 W1→bx4 w.heap.size d (.slice ao d.labels.length cap) W1):=fun W1 hb=>bx4_bel hb (bx4_of hN0)
 have HKq:Hid (∀ X W1,Pg u pb W0 p X W1→bx4 w.heap.size d (.slice ao d.labels.length cap) W1):=fun X W1 k=>bx4_of (k.cells hN0 hne (by decide))
 have HPr:=hid_of HP0.out.re
 clear hN0 HP hne
 go_region_held3 (fun W=>bx4 w.heap.size d (.slice ao d.labels.length cap) W)
  (first | (with_reducible exact HKq.out _ _ hPy) | (with_reducible exact HKq.out _ _ hPz) | (with_reducible exact HKq.out _ _ (hPz.alloc _)) | ((with_reducible refine HKp.out _ ?_);repeat (first | with_reducible exact hB9 | with_reducible exact Below.refl _ _ | with_reducible refine belD ?_ | with_reducible refine belN _ ?_)))
  (first
   | (go_at_call 51;(with_reducible refine Calls.mono (HH.out _) ?_);rintro e w9 ⟨rfl,hb9⟩;have hB9:Below W0.heap.size W0 w9:=bt (by repeat (first | with_reducible exact Below.refl _ _ | with_reducible refine belD ?_ | with_reducible refine belN _ ?_)) hb9)
   | (go_at_call 21;(with_reducible refine Calls.mono (HL1.out _ _ _ (HPr.out.below (by repeat (first | with_reducible exact hB9 | with_reducible refine belN _ ?_))) (by with_reducible exact new_1 _ _)) ?_);rintro e wz ⟨rfl,hPz⟩)
   | (go_at_call 52;(with_reducible refine Calls.mono (HTy.out _) ?_);rintro e w8 ⟨rfl,rfl⟩)
   | (go_at_call 21;(with_reducible refine Calls.mono (HL2'.out _ _ _ (hPz.alloc _) (by with_reducible exact new_1 _ _)) ?_);rintro e wy ⟨rfl,hPy⟩))
 all_goals
  go_wp2_with fail
  go_ret
  exact ⟨rfl,HP0.out.then hPy⟩
def kfn (k:Int):FuncId:=if k=1 then 48 else if k=2 then 49 else 50
abbrev fnV (f:FuncId):Value:=.func (.func f) #[] #[]
def kE1:Array MapEntry:=#[⟨.int .i64 1,fnV 48,0⟩]
def kE2:Array MapEntry:=#[⟨.int .i64 1,fnV 48,0⟩,⟨.int .i64 2,fnV 49,1⟩]
def kES:Array MapEntry:=#[⟨.int .i64 1,fnV 48,0⟩,⟨.int .i64 2,fnV 49,1⟩,⟨.int .i64 3,fnV 50,2⟩]
def setB (w:World) (b:Nat) (o:Obj):World:={ w with heap:=w.heap.setIfInBounds b o }
theorem setB_at {w:World} {b:Nat} {o o':Obj} (h:w.heap[b]? =some o):(setB w b o').heap[b]? =some o':=(MapKept.heap_set h).1
theorem setB_bel {u w:World} {b:Nat} (o':Obj) (h:Below u.heap.size u w) (hb:u.heap.size≤b):Below u.heap.size u (setB w b o') :=
 ⟨h.os,h.tape,h.output,by show u.heap.size≤(w.heap.setIfInBounds b o').size;rw [Array.size_setIfInBounds];exact h.size,fun k hk=>by
  show (w.heap.setIfInBounds b o')[k]? =_
  rw [Array.getElem?_setIfInBounds_ne (by omega)]
  exact h.block k hk⟩
theorem upd_new {w:World} {b:Nat} {es:Array MapEntry} {cl:Nat} {k:Int} {v:Value} (hb:w.heap[b]? =some (.map es cl)) (hf:Instr.findNow (.int .i64) (.int .i64 k) es.toList 0=some none) :
  (Instr.mapUpdate 66 (.map (some b)) (.int .i64 k) v).run Tryz.prog w=.ok () (setB w b (.map (es.push ⟨.int .i64 k,v,cl⟩) (cl+1))):=by
 simp [Instr.mapUpdate,run_underlying Tryz.underlying66,MapKept.run_getObj_map hb,MapKept.run_checkKey Tryz.underlying3 (k:=.int .i64 k) rfl,MapKept.run_findKey Tryz.underlying3 hf,MapKept.run_setObj_map _ hb,Result.andThen,setB]
theorem look_any {w:World} {b:Nat} {k:Int} (hb:w.heap[b]? =some (.map kES 3)) (hk:k=1∨k=2∨k=3) :
  (Instr.lookup 66 (.map (some b)) (.int .i64 k) false).run Tryz.prog w=.ok (.func (.func (kfn k)) #[] #[]) w:=by
 have hf:∃ j,Instr.findNow (.int .i64) (.int .i64 k) kES.toList 0=some (some (j,fnV (kfn k))):=by
  rcases hk with rfl | rfl | rfl
  ·exact ⟨0,rfl⟩
  ·exact ⟨1,rfl⟩
  ·exact ⟨2,rfl⟩
 obtain ⟨j,hf⟩:=hf
 simp [Instr.lookup,run_underlying Tryz.underlying66,MapKept.run_getObj_map hb,MapKept.run_checkKey Tryz.underlying3 (k:=.int .i64 k) rfl,MapKept.run_findKey Tryz.underlying3 hf,Result.andThen]
theorem kinds_any (w:World):Calls Tryz.prog 24 #[] w fun e w'=>e=.returned (.map (some w.heap.size))∧w'.heap[w.heap.size]? =some (.map kES 3)∧Below w.heap.size w w':=by
 have hmk:(Instr.makeMap 66 none).run Tryz.prog w=.ok (.map (some w.heap.size)) (w.alloc (.map #[] 0)):=rfl
 have h0:(w.alloc (.map #[] 0)).heap[w.heap.size]? =some (.map #[] 0):=new_1 w _
 have u1:(Instr.mapUpdate 66 (.map (some w.heap.size)) (.int .i64 1) (fnV 48)).run Tryz.prog (w.alloc (.map #[] 0))=.ok () (setB (w.alloc (.map #[] 0)) w.heap.size (.map kE1 1)):=upd_new h0 rfl
 have h1:(setB (w.alloc (.map #[] 0)) w.heap.size (.map kE1 1)).heap[w.heap.size]? =some (.map kE1 1):=setB_at h0
 have u2:(Instr.mapUpdate 66 (.map (some w.heap.size)) (.int .i64 2) (fnV 49)).run Tryz.prog (setB (w.alloc (.map #[] 0)) w.heap.size (.map kE1 1))=.ok () (setB (setB (w.alloc (.map #[] 0)) w.heap.size (.map kE1 1)) w.heap.size (.map kE2 2)):=upd_new h1 rfl
 have h2:(setB (setB (w.alloc (.map #[] 0)) w.heap.size (.map kE1 1)) w.heap.size (.map kE2 2)).heap[w.heap.size]? =some (.map kE2 2):=setB_at h1
 have u3:(Instr.mapUpdate 66 (.map (some w.heap.size)) (.int .i64 3) (fnV 50)).run Tryz.prog (setB (setB (w.alloc (.map #[] 0)) w.heap.size (.map kE1 1)) w.heap.size (.map kE2 2))=.ok () (setB (setB (setB (w.alloc (.map #[] 0)) w.heap.size (.map kE1 1)) w.heap.size (.map kE2 2)) w.heap.size (.map kES 3)):=upd_new h2 rfl
 have h3:(setB (setB (setB (w.alloc (.map #[] 0)) w.heap.size (.map kE1 1)) w.heap.size (.map kE2 2)) w.heap.size (.map kES 3)).heap[w.heap.size]? =some (.map kES 3):=setB_at h2
 have HB:=hid_of (setB_bel (.map kES 3) (setB_bel (.map kE2 2) (setB_bel (.map kE1 1) (bel1 w (.map #[] 0)) (Nat.le_refl _)) (Nat.le_refl _)) (Nat.le_refl _))
 have H3:=hid_of h3
 clear h0 h1 h2 h3
 go_enter Tryz.func24,Tryz.ntmps24
 go_wp2_with fail
 go_ret
 exact ⟨rfl,H3.out,HB.out⟩
theorem family_no (u:World) (pb:Nat) (p:Int) (T:List UInt8) (d:La.Ds) (lv:Value) (M:List La.Lb) (w:World) (h:Pg u pb w p T w) (hl:SLb u lv d.labels) (hs:Sho d M) (hT:fitB T=true) (hf:¬ fitB (T++heT d)=true) :
  Calls Tryz.prog 25 #[.pointer (some ⟨pb,0,none⟩),dsV d lv] w fun e w'=>e=.returned (.bool (wrL T [heT d,tyT d]).2)∧Pg u pb w p (wrL T [heT d,tyT d]).1 w':=by
 have hlen:=heT_len hs
 have HH:Hid (∀ W,Calls Tryz.prog 51 #[.string ⟨d.help.toArray⟩] W fun e w'=>e=.returned (.string ⟨(La.escL false d.help).toArray⟩)∧Below W.heap.size W w'):=fun W=>La.chelp_any d.help (by have:=escL_len false d.help;have:=hs.h;omega) (by have:=hs.h;omega) W
 have HL1:Hid (∀ w sb W,Pg u pb w p T W→W.heap[sb]? =some (.cells #[.string ⟨#[35,32,72,69,76,80,32]⟩,.string ⟨d.name.toArray⟩,.string ⟨#[32]⟩,.string ⟨(La.escL false d.help).toArray⟩] 9)→Calls Tryz.prog 21 #[.pointer (some ⟨pb,0,none⟩),.slice (some ⟨sb,0,none⟩) 4 4] W fun e w'=>e=.returned (.bool (fitB (T++heT d)))∧Pg u pb w p (T++heT d) w') :=
  fun w sb W h1 h2=>by
   have q:=line_any u pb sb 4 p [heA,d.name,[32],La.escL false d.help] T W h1.re h2 (by simp) (by rw [← heT];have:=fit_len hT;omega)
   rw [← heT] at q
   refine Calls.mono q ?_
   rintro e w' ⟨rfl,q⟩
   exact ⟨rfl,h1.then q⟩
 have HL2:fitB (T++heT d)=true→Hid (∀ w sb W,Pg u pb w p (T++heT d) W→W.heap[sb]? =some (.cells #[.string ⟨#[35,32,84,89,80,69,32]⟩,.string ⟨d.name.toArray⟩,.string ⟨#[32]⟩,.string ⟨(kdT d.kind).toArray⟩] 9)→Calls Tryz.prog 21 #[.pointer (some ⟨pb,0,none⟩),.slice (some ⟨sb,0,none⟩) 4 4] W fun e w'=>e=.returned (.bool (fitB (T++heT d++tyT d)))∧Pg u pb w p (T++heT d++tyT d) w') :=
  fun hf w sb W h1 h2=>by
   have q:=line_any u pb sb 4 p [tyA,d.name,[32],kdT d.kind] (T++heT d) W h1.re h2 (by simp) (by rw [← tyT];have:=fit_len hf;omega)
   rw [← tyT] at q
   refine Calls.mono q ?_
   rintro e w' ⟨rfl,q⟩
   exact ⟨rfl,h1.then q⟩
 have HTy:Hid (∀ W,_):=fun W=>typeOf_any d.kind W
 have HP:=hid_of h
 obtain ⟨ao,cap,rfl⟩:=hl.form
 have hwr:=wrL_two T (heT d) (tyT d)
 rw [hwr]
 clear h hl hs hlen hT hwr
 simp only [Bool.not_eq_true] at hf
 rw [hf] at HL1 ⊢
 clear HL2 hf HTy
 generalize T++heT d=R1 at HL1 ⊢
 generalize La.escL false d.help=D at HL1 HH
 go_enter Tryz.func25,Tryz.ntmps25
 go_upto_region 1 with fail
 have hN0:=new_1 w (.cells #[.int .i64 d.kind,.string ⟨d.name.toArray⟩,.string ⟨d.help.toArray⟩,.slice ao d.labels.length cap] 41)
 have HP0:=hid_of (HP.out.alloc (.cells #[.int .i64 d.kind,.string ⟨d.name.toArray⟩,.string ⟨d.help.toArray⟩,.slice ao d.labels.length cap] 41))
 have hne:w.heap.size≠pb:=by have:=HP.out.lt;omega
 generalize w.alloc (.cells #[.int .i64 d.kind,.string ⟨d.name.toArray⟩,.string ⟨d.help.toArray⟩,.slice ao d.labels.length cap] 41)=W0 at *
 have HKp:Hid (∀ W1,Below W0.heap.size W0 W1→bx4 w.heap.size d (.slice ao d.labels.length cap) W1):=fun W1 hb=>bx4_bel hb (bx4_of hN0)
 have HKq:Hid (∀ X W1,Pg u pb W0 p X W1→bx4 w.heap.size d (.slice ao d.labels.length cap) W1):=fun X W1 k=>bx4_of (k.cells hN0 hne (by decide))
 have HPr:=hid_of HP0.out.re
 clear hN0 HP hne
 refine wp_region_held_drew (S:=fun W=>bx4 w.heap.size d (.slice ao d.labels.length cap) W) (by kernel_rfl) (HKp.out _ (belD (Below.refl _ _))) (fun hHeld=>?_)
 refine wpAnyH_take (i:=0) (v:=?va0) rfl (by kernel_rfl) (by kernel_rfl) (by kernel_rfl) (fun _ _ _ h=>h) (Or.inl ⟨by rfl,?hya0⟩) hHeld ?resta0
 case hya0=>(intro w hSw;(try dsimp only at hSw);go_simp;try with_reducible rfl)
 try simp only [Act.put,List.getElem_cons_zero,List.getElem_toArray,List.setIfInBounds_toArray,List.set_cons_zero,List.set_cons_succ]
 refine wpAnyH_take (i:=1) (v:=?va1) rfl (by kernel_rfl) (by kernel_rfl) (by kernel_rfl) (fun _ _ _ h=>h) (Or.inl ⟨by rfl,?hya1⟩) hHeld ?resta1
 case hya1=>(intro w hSw;(try dsimp only at hSw);go_simp;try with_reducible rfl)
 try simp only [Act.put,List.getElem_cons_succ,List.getElem_cons_zero,List.getElem_toArray,List.setIfInBounds_toArray,List.set_cons_zero,List.set_cons_succ]
 refine wpAnyH_take (i:=2) (v:=?va2) rfl (by kernel_rfl) (by kernel_rfl) (by kernel_rfl) (fun _ _ _ h=>h) (Or.inl ⟨by rfl,?hya2⟩) hHeld ?resta2
 case hya2=>(intro w hSw;(try dsimp only at hSw);go_simp;try with_reducible rfl)
 try simp only [Act.put,List.getElem_cons_succ,List.getElem_cons_zero,List.getElem_toArray,List.setIfInBounds_toArray,List.set_cons_zero,List.set_cons_succ]
 refine wpAnyH_take (i:=3) (v:=?va3) rfl (by kernel_rfl) (by kernel_rfl) (by kernel_rfl) (fun _ _ _ h=>h) (Or.inl ⟨by rfl,?hya3⟩) hHeld ?resta3
 case hya3=>(intro w hSw;(try dsimp only at hSw);go_simp;try with_reducible rfl)
 try simp only [Act.put,List.getElem_cons_succ,List.getElem_cons_zero,List.getElem_toArray,List.setIfInBounds_toArray,List.set_cons_zero,List.set_cons_succ]
 refine wpAnyH_take (i:=4) (v:=?va4) rfl (by kernel_rfl) (by kernel_rfl) (by kernel_rfl) (fun _ _ _ h=>h) (Or.inl ⟨by rfl,?hya4⟩) hHeld ?resta4
 case hya4=>(intro w hSw;(try dsimp only at hSw);go_simp;try with_reducible rfl)
 try simp only [Act.put,List.getElem_cons_succ,List.getElem_cons_zero,List.getElem_toArray,List.setIfInBounds_toArray,List.set_cons_zero,List.set_cons_succ]
 refine wpAnyH_ready (rs:=[5]) (by kernel_rfl) (by simp) ?_
 refine AllReadyH.cons rfl (fun K hK=>?_) AllReadyH.nil
 go_simp
 refine Calls.mono (HH.out _) ?_
 rintro e w9 ⟨rfl,hb9⟩
 have hB9:Below W0.heap.size W0 w9:=bt (belD (Below.refl _ _)) hb9
 go_wp2_with fail
 refine hK.out _ _ ?_ (fun hHeld=>?_)
 ·exact HKp.out _ hB9
 clear hK K
 try simp only [Act.put,List.getElem_cons_succ,List.getElem_cons_zero,List.getElem_toArray,List.setIfInBounds_toArray,List.set_cons_zero,List.set_cons_succ]
 refine wpAnyH_ready (rs:=[6]) (by kernel_rfl) (by simp) ?_
 refine AllReadyH.cons rfl (fun K hK=>?_) AllReadyH.nil
 go_simp
 refine hK.out _ _ ?_ (fun hHeld=>?_)
 ·exact HKp.out _ (belN _ hB9)
 clear hK K
 try simp only [Act.put,List.getElem_cons_succ,List.getElem_cons_zero,List.getElem_toArray,List.setIfInBounds_toArray,List.set_cons_zero,List.set_cons_succ]
 refine wpAnyH_ready (rs:=[7]) (by kernel_rfl) (by simp) ?_
 refine AllReadyH.cons rfl (fun K hK=>?_) AllReadyH.nil
 go_simp
 refine Calls.mono (HL1.out _ _ _ (HPr.out.below (belN _ hB9)) (new_1 _ _)) ?_
 rintro e wz ⟨rfl,hPz⟩
 go_wp2_with fail
 refine hK.out _ _ ?_ (fun hHeld=>?_)
 ·exact HKq.out _ _ hPz
 clear hK K
 try simp only [Act.put,List.getElem_cons_succ,List.getElem_cons_zero,List.getElem_toArray,List.setIfInBounds_toArray,List.set_cons_zero,List.set_cons_succ]
 refine wpAnyH_take (i:=8) (v:=?va8) rfl (by kernel_rfl) (by kernel_rfl) (by kernel_rfl) (fun _ _ _ h=>h) (Or.inl ⟨by rfl,?hya8⟩) hHeld ?resta8
 case hya8=>(intro w hSw;(try dsimp only at hSw);go_simp;try with_reducible rfl)
 try simp only [Act.put,List.getElem_cons_succ,List.getElem_cons_zero,List.getElem_toArray,List.setIfInBounds_toArray,List.set_cons_zero,List.set_cons_succ]
 refine wpAnyH_take (i:=9) (v:=undef) rfl (by kernel_rfl) (by kernel_rfl) (by kernel_rfl) (fun _ _ _ h=>h) (Or.inr ⟨by rfl,rfl⟩) hHeld ?_
 try simp only [Act.put,List.getElem_cons_succ,List.getElem_cons_zero,List.getElem_toArray,List.setIfInBounds_toArray,List.set_cons_zero,List.set_cons_succ]
 refine wpAnyH_take (i:=10) (v:=undef) rfl (by kernel_rfl) (by kernel_rfl) (by kernel_rfl) (fun _ _ _ h=>h) (Or.inr ⟨by rfl,rfl⟩) hHeld ?_
 try simp only [Act.put,List.getElem_cons_succ,List.getElem_cons_zero,List.getElem_toArray,List.setIfInBounds_toArray,List.set_cons_zero,List.set_cons_succ]
 refine wpAnyH_take (i:=11) (v:=undef) rfl (by kernel_rfl) (by kernel_rfl) (by kernel_rfl) (fun _ _ _ h=>h) (Or.inr ⟨by rfl,rfl⟩) hHeld ?_
 try simp only [Act.put,List.getElem_cons_succ,List.getElem_cons_zero,List.getElem_toArray,List.setIfInBounds_toArray,List.set_cons_zero,List.set_cons_succ]
 refine wpAnyH_take (i:=12) (v:=undef) rfl (by kernel_rfl) (by kernel_rfl) (by kernel_rfl) (fun _ _ _ h=>h) (Or.inr ⟨by rfl,rfl⟩) hHeld ?_
 try simp only [Act.put,List.getElem_cons_succ,List.getElem_cons_zero,List.getElem_toArray,List.setIfInBounds_toArray,List.set_cons_zero,List.set_cons_succ]
 refine wpAnyH_take (i:=13) (v:=undef) rfl (by kernel_rfl) (by kernel_rfl) (by kernel_rfl) (fun _ _ _ h=>h) (Or.inr ⟨by rfl,rfl⟩) hHeld ?_
 try simp only [Act.put,List.getElem_cons_succ,List.getElem_cons_zero,List.getElem_toArray,List.setIfInBounds_toArray,List.set_cons_zero,List.set_cons_succ]
 refine wpAnyH_take (i:=14) (v:=undef) rfl (by kernel_rfl) (by kernel_rfl) (by kernel_rfl) (fun _ _ _ h=>h) (Or.inr ⟨by rfl,rfl⟩) hHeld ?_
 try simp only [Act.put,List.getElem_cons_succ,List.getElem_cons_zero,List.getElem_toArray,List.setIfInBounds_toArray,List.set_cons_zero,List.set_cons_succ]
 refine wpAnyH_take (i:=15) (v:=undef) rfl (by kernel_rfl) (by kernel_rfl) (by kernel_rfl) (fun _ _ _ h=>h) (Or.inr ⟨by rfl,rfl⟩) hHeld ?_
 try simp only [Act.put,List.getElem_cons_succ,List.getElem_cons_zero,List.getElem_toArray,List.setIfInBounds_toArray,List.set_cons_zero,List.set_cons_succ]
 refine wpAnyH_take (i:=16) (v:=undef) rfl (by kernel_rfl) (by kernel_rfl) (by kernel_rfl) (fun _ _ _ h=>h) (Or.inr ⟨by rfl,rfl⟩) hHeld ?_
 try simp only [Act.put,List.getElem_cons_succ,List.getElem_cons_zero,List.getElem_toArray,List.setIfInBounds_toArray,List.set_cons_zero,List.set_cons_succ]
 refine wpAnyH_take (i:=17) (v:=?va17) rfl (by kernel_rfl) (by kernel_rfl) (by kernel_rfl) (fun _ _ _ h=>h) (Or.inl ⟨by rfl,?hya17⟩) hHeld ?resta17
 case hya17=>(intro w hSw;(try dsimp only at hSw);go_simp;try with_reducible rfl)
 try simp only [Act.put,List.getElem_cons_succ,List.getElem_cons_zero,List.getElem_toArray,List.setIfInBounds_toArray,List.set_cons_zero,List.set_cons_succ]
 refine wpAnyH_take (i:=18) (v:=?va18) rfl (by kernel_rfl) (by kernel_rfl) (by kernel_rfl) (fun _ _ _ h=>h) (Or.inl ⟨by rfl,?hya18⟩) hHeld ?resta18
 case hya18=>(intro w hSw;(try dsimp only at hSw);go_simp;try with_reducible rfl)
 try simp only [Act.put,List.getElem_cons_succ,List.getElem_cons_zero,List.getElem_toArray,List.setIfInBounds_toArray,List.set_cons_zero,List.set_cons_succ]
 refine wpAnyH_done (by kernel_rfl) ?_ _
 all_goals
  go_wp2_with fail
  go_ret
  exact ⟨rfl,HP0.out.then hPz⟩
theorem family_any (u:World) (pb:Nat) (p:Int) (T:List UInt8) (d:La.Ds) (lv:Value) (M:List La.Lb) (w:World) (h:Pg u pb w p T w) (hl:SLb u lv d.labels) (hs:Sho d M) (hT:fitB T=true) :
  Calls Tryz.prog 25 #[.pointer (some ⟨pb,0,none⟩),dsV d lv] w fun e w'=>e=.returned (.bool (wrL T [heT d,tyT d]).2)∧Pg u pb w p (wrL T [heT d,tyT d]).1 w':=by
 by_cases hf:fitB (T++heT d)=true
 ·exact family_yes u pb p T d lv M w h hl hs hT hf
 ·exact family_no u pb p T d lv M w h hl hs hT hf
end Go.Proofs.YtfkbjdgbpenflaaGreatDoor
