/- RULES: RulesOneForm's walk. Own work of the verifier. -/
import Derived.Test.YtifapjammoahgaaGreatDoorSBR
import Derived.Test.YtifapjammoahgaaGreatDoorSBP
import Derived.Test.YtifapjammoahgaaGreatDoorSBQ
set_option maxRecDepth 100000
set_option maxHeartbeats 8000000
namespace Go.Proofs.YtifapjammoahgaaGreatDoor.Ru
open Go.RowKit Go.Sort Me
theorem hx_at {W W1:World} {g:Nat} {c:Array Value} {t:TypeId} (h:W.heap[g]? =some (.cells c t)) (hb:Below W.heap.size W W1):W1.heap[g]? =some (.cells c t):=(hb.block g (Array.getElem?_eq_some_iff.1 h).1).trans h
theorem oneform_walk (w:World) (hf:EnvO w) (T:List UInt8) (hT:T.length≤9223372036854775807) :
    Calls Tryz.prog 3 #[.string ⟨T.toArray⟩] w fun e w'=>e=.returned (.bool true)∧Below w.heap.size w w':=by
  have he:Env w:=hf.f.e
  have HAw:Hid (∀ W,Below w.heap.size w W→Calls Tryz.prog 4 #[] W fun e w'=>e=.returned (.bool true)∧Below W.heap.size W w'):=fun W hb=>awake_any W (he.below hb)
  have HPa:Hid (∀ W,Below w.heap.size w W→Calls Tryz.prog 5 #[.string ⟨T.toArray⟩] W fun e w'=>OnQ T W.heap.size e w'∧Below W.heap.size W w'):=fun W hb=>parse_all T hT W (hf.below hb)
  have HSz:Hid (∀ W,Calls Tryz.prog 6 #[rx 0 0 [] (.slice none 0 0) 0 0 0 (.slice none 0 0),rx 0 0 [] (.slice none 0 0) 0 0 0 (.slice none 0 0)] W fun e w'=>e=.returned (.bool true)∧Below W.heap.size W w'):=fun W=>by
    have hz:∀ s ∈ nds RT.zero,szX s:=fun s hs=>by
      have:s=RT.zero:=by simpa [nds,ndsL] using hs
      subst this
      show (0:Nat) < 18446744073709551616
      decide
    have q:=dsame_any RT.zero RT.zero _ _ W (RV.zero 0 W) (RV.zero 0 W) hz hz
    rw [smB_refl] at q
    exact q
  have HPr:Hid (∀ t v W,ckE t=0→wrT t=T→T.length≤65536→(∀ s ∈ nds t,szN s∧szI s)→Below w.heap.size w W→RV 0 W t v→Calls Tryz.prog 7 #[v] W fun e w'=>e=.returned (.tuple #[.string ⟨T.toArray⟩,.int .i64 0])∧Below W.heap.size W w'):=fun t v W h1 h2 h3 hz hb hv=>(rpr_any t v W hv hz (he.below hb)).mono (by
    rintro e w' ⟨⟨k1,-⟩ | ⟨-,k2,-⟩ | ⟨-,-,rfl⟩,hb'⟩
    · exact absurd h1 k1
    · rw [h2] at k2;omega
    · exact ⟨by rw [h2],hb'⟩)
  have HCk:Hid (∀ t v W,ckE t=0→(∀ s ∈ nds t,szN s∧szI s)→Below w.heap.size w W→RV 0 W t v→Calls Tryz.prog 8 #[v] W fun e w'=>e=.returned (.int .i64 0)∧Below W.heap.size W w'):=fun t v W h1 hz hb hv=>by
    have q:=check_any t v W hv (fun s hs=>(hz s hs).1) (he.kd.below hb)
    rw [h1] at q
    exact q
  have HB0:Hid (Below w.heap.size w w):=Below.refl _ _
  have sF:=store_f
  have HT:=hid_of hT
  clear he hf hT
  go_enter Tryz.func3,Tryz.ntmps3
  go_wp2_with fail
  refine Calls.mono (HAw.out _ HB0.out) ?_
  rintro e W1 ⟨rfl,hb1⟩
  have HB1:=hid_of (bt HB0.out hb1)
  clear HB0 hb1 HAw
  go_upto_region 3 with fail
  go_wp2_with fail
  refine Calls.mono (HPa.out _ HB1.out) ?_
  rintro e W2 ⟨⟨z,a,hz,ha,rfl⟩ | ⟨t,v,rfl,hv,hc,hw,hl,hs⟩,hb2⟩
  · have HB2:=hid_of (bt HB1.out hb2)
    have HZ:=hid_of hz
    have HA:=hid_of ha
    clear HB1 hb2 HPa HPr HCk hz ha
    go_upto_region 4 with fail
    obtain ⟨W3,hW3⟩:∃ W3,W3=W2.alloc (.cells (rc 0 0 [] (.slice none 0 0) 0 0 0 (.slice none 0 0)) 27):=⟨_,rfl⟩
    have hb3:Below W2.heap.size W2 W3:=by rw [hW3];exact bel1 W2 _
    have hn3:W3.heap[W2.heap.size]? =some (.cells (rc 0 0 [] (.slice none 0 0) 0 0 0 (.slice none 0 0)) 27):=by rw [hW3];exact new_1 W2 _
    rw [← hW3]
    have HB3:=hid_of (bt HB2.out hb3)
    have HN3:=hid_of hn3
    clear hW3 hb3 hn3 HB2
    generalize W2.heap.size=gx at *
    have hz':((z:Int) != 0)=true:=by rw [bne_iff_ne];have:=HZ.out;omega
    go_upto_region 5 with fail
    obtain ⟨y0,y1,y2,y3,y4,y5,y6,y7⟩:=eight HN3.out
    clear hz' HZ
    go_wp2_with fail
    refine Calls.mono (HSz.out _) ?_
    rintro e W4 ⟨rfl,hb4⟩
    have HB4:=hid_of (bt HB3.out hb4)
    have ha1:(0:Int)≤(a:Int):=by omega
    have ha2:(a:Int)≤(T.length:Int):=by have:=HA.out;omega
    have hT':(T.length:Int)≤9223372036854775807:=by have:=HT.out;omega
    clear HB3 HN3 hb4 HSz HA HT y0 y1 y2 y3 y4 y5 y6 y7
    go_wp2_with fail
    go_ret
    exact ⟨rfl,HB4.out⟩
  · have HB2:=hid_of (bt HB1.out hb2)
    obtain ⟨k1,x1,nm1,la1,ln1,lc1,w1,n1,d1,aa1,an1,ac1,rfl⟩:=hv.form
    have HV2:=hid_of (hv.mono (Nat.zero_le _))
    have HP1:Hid (∀ v W,Below w.heap.size w W→RV 0 W t v→Calls Tryz.prog 7 #[v] W fun e w'=>e=.returned (.tuple #[.string ⟨T.toArray⟩,.int .i64 0])∧Below W.heap.size W w'):=fun v W hb hv=>HPr.out t v W hc hw hl hs hb hv
    have HC1:Hid (∀ v W,Below w.heap.size w W→RV 0 W t v→Calls Tryz.prog 8 #[v] W fun e w'=>e=.returned (.int .i64 0)∧Below W.heap.size W w'):=fun v W hb hv=>HCk.out t v W hc hs hb hv
    clear HB1 hb2 HPa HPr HCk HSz hc hw hl hs hv
    go_upto_region 4 with fail
    obtain ⟨W3,hW3⟩:∃ W3,W3=W2.alloc (.cells (rc k1 x1 nm1 (.slice la1 ln1 lc1) w1 n1 d1 (.slice aa1 an1 ac1)) 27):=⟨_,rfl⟩
    have hb3:Below W2.heap.size W2 W3:=by rw [hW3];exact bel1 W2 _
    have hn3:W3.heap[W2.heap.size]? =some (.cells (rc k1 x1 nm1 (.slice la1 ln1 lc1) w1 n1 d1 (.slice aa1 an1 ac1)) 27):=by rw [hW3];exact new_1 W2 _
    rw [← hW3]
    have HB3:=hid_of (bt HB2.out hb3)
    have HN3:=hid_of hn3
    have HV3:=hid_of (HV2.out.below hb3)
    clear hW3 hb3 hn3 HB2 HV2
    generalize W2.heap.size=gx at *
    go_upto_region 6 with fail
    obtain ⟨y0,y1,y2,y3,y4,y5,y6,y7⟩:=eight HN3.out
    go_wp2_with fail
    refine Calls.mono (HP1.out _ _ HB3.out HV3.out) ?_
    rintro e W4 ⟨rfl,hb4⟩
    have HB4:=hid_of (bt HB3.out hb4)
    have HN4:=hid_of (hx_at HN3.out hb4)
    have HV4:=hid_of (HV3.out.below hb4)
    clear HB3 HN3 HV3 hb4 HP1 y0 y1 y2 y3 y4 y5 y6 y7
    obtain ⟨y0,y1,y2,y3,y4,y5,y6,y7⟩:=eight HN4.out
    go_wp2_with fail
    refine Calls.mono (HC1.out _ _ HB4.out HV4.out) ?_
    rintro e W5 ⟨rfl,hb5⟩
    have HB5:=hid_of (bt HB4.out hb5)
    clear HB4 HN4 HV4 hb5 HC1 HT y0 y1 y2 y3 y4 y5 y6 y7
    go_wp2_with fail
    go_ret
    exact ⟨rfl,HB5.out⟩
end Go.Proofs.YtifapjammoahgaaGreatDoor.Ru
