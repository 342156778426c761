/- real.Parse AT ONE DIGIT (printed by gen_vi.py). Own work of the verifier. -/
import Derived.Test.YtifapjammoahgaaGreatDoorSAO
import Derived.WalkMore
set_option maxRecDepth 100000
set_option maxHeartbeats 4000000
namespace Go.Proofs.YtifapjammoahgaaGreatDoor.Rl
open Go.RowKit Go.Sort
theorem dspecial_1 (w:World):Calls Tryz.prog 181 #[.string ⟨#[49]⟩] w fun e w'=>e=.returned (.tuple #[.float .f64 0,.int .i64 0,.bool false])∧w'=w:=by
  go_enter Tryz.func181,Tryz.ntmps181
  go_wp2
  go_ret3
  exact ⟨rfl,rfl⟩
theorem dread_1 (w:World):Calls Tryz.prog 182 #[.string ⟨#[49]⟩] w fun e w'=>e=.returned (.tuple #[.int .u64 1,.int .i64 0,.bool false,.bool false,.bool false,.int .i64 1,.bool true])∧Below w.heap.size w w':=by
  go_enter Tryz.func182,Tryz.ntmps182
  go_wp2_with fail
  go_step3
  go_wp2_with fail
  go_step3
  go_wp2_with fail
  go_rounds 2
  go_wp2_with fail
  rw [Exit.noGoto_ret]
  show bodyPost _ _ _ _ _ _
  simp [bodyPost,results,Tryz.results182,go_sem]
  exact ⟨by decide,Below.refl _ _⟩
theorem dexact (n x:Nat) (hn:n < 100) (hx:floatOfInt .f64 (n:Int)=x) (w:World) (hGl:Glob w):Calls Tryz.prog 191 #[.int .u64 (n:Int),.int .i64 0,.bool false] w fun e w'=>e=.returned (.tuple #[.float .f64 x,.bool true])∧Below w.heap.size w w':=by
  have h52:=hGl.m52
  clear hGl
  go_enter Tryz.func191,Tryz.ntmps191
  go_wp2
  go_ret2
  exact ⟨rfl,Below.refl _ _⟩
theorem datof (s:ByteArray) (n x:Nat) (hn0:0 < n) (hn:n < 100) (_hs1:s.size=1) (hx:floatOfInt .f64 (n:Int)=x)
    (HS:Hid (∀ W,Calls Tryz.prog 181 #[.string s] W fun e w'=>e=.returned (.tuple #[.float .f64 0,.int .i64 0,.bool false])∧w'=W))
    (HR:Hid (∀ W,Calls Tryz.prog 182 #[.string s] W fun e w'=>e=.returned (.tuple #[.int .u64 (n:Int),.int .i64 0,.bool false,.bool false,.bool false,.int .i64 1,.bool true])∧Below W.heap.size W w')) (w:World) (hGl:Glob w) :
    Calls Tryz.prog 169 #[.string s] w fun e w'=>e=.returned (.tuple #[.float .f64 x,.int .i64 1,.nilIface])∧Below w.heap.size w w':=by
  have hn1:((n:Int) == 0)=false:=by rw [beq_eq_false_iff_ne];omega
  have HX:Hid _:=dexact n x hn hx
  clear hx
  go_enter Tryz.func169,Tryz.ntmps169
  go_wp2_with (first
    | (go_at_call 181;refine (HS.out _).mono ?_;rintro e w ⟨rfl,rfl⟩)
    | fail)
  refine (HR.out _).mono ?_
  rintro e w1 ⟨rfl,hb1⟩
  have hG1:=hGl.below hb1
  have ho:=hG1.opt
  go_wp2_with (first
    | (go_at_call 174;with_reducible refine (bool2_u64 _ _).mono ?_;rintro e w1 ⟨rfl,rfl⟩)
    | fail)
  refine (HX.out w1 hG1).mono ?_
  rintro e w2 ⟨rfl,hb2⟩
  go_wp2
  go_ret3
  exact ⟨rfl,hb1.trans (hb2.mono hb1.size)⟩
theorem dprefix (s:ByteArray) (q:Nat) (w:World) (HA:Hid (Calls Tryz.prog 169 #[.string s] w fun e w'=>e=.returned (.tuple #[.float .f64 q,.int .i64 1,.nilIface])∧Below w.heap.size w w')) :
    Calls Tryz.prog 129 #[.string s,.int .i64 64] w fun e w'=>e=.returned (.tuple #[.float .f64 q,.int .i64 1,.nilIface])∧Below w.heap.size w w':=by
  go_enter Tryz.func129,Tryz.ntmps129
  go_wp2_with fail
  refine HA.out.mono ?_
  rintro e w1 ⟨rfl,hb1⟩
  go_wp2
  go_ret3
  exact ⟨rfl,hb1⟩
theorem dparse (s:ByteArray) (q:Nat) (hs1:s.size=1) (w:World) (HA:Hid (Calls Tryz.prog 169 #[.string s] w fun e w'=>e=.returned (.tuple #[.float .f64 q,.int .i64 1,.nilIface])∧Below w.heap.size w w')) :
    Calls Tryz.prog 94 #[.string s,.int .i64 64] w fun e w'=>e=.returned (.tuple #[.float .f64 q,.nilIface])∧Below w.heap.size w w':=by
  go_enter Tryz.func94,Tryz.ntmps94
  go_wp2_with fail
  refine (dprefix s q w HA).mono ?_
  rintro e w1 ⟨rfl,hb1⟩
  go_wp2
  go_ret2
  exact ⟨rfl,hb1⟩
theorem dParse (s:ByteArray) (q:Nat) (hs1:s.size=1) (w:World) (HA:Hid (Calls Tryz.prog 169 #[.string s] w fun e w'=>e=.returned (.tuple #[.float .f64 q,.int .i64 1,.nilIface])∧Below w.heap.size w w')) :
    Calls Tryz.prog 72 #[.string s,.int .i64 64] w fun e w'=>e=.returned (.tuple #[.float .f64 q,.nilIface])∧Below w.heap.size w w':=by
  go_enter Tryz.func72,Tryz.ntmps72
  go_wp2_with fail
  refine (dparse s q hs1 w HA).mono ?_
  rintro e w1 ⟨rfl,hb1⟩
  go_wp2
  go_ret2
  exact ⟨rfl,hb1⟩
theorem dtrim {u k:Nat} {L:List UInt8} (hL:Lib.decDigits u=L) (h1:k≤L.length) (h2:∀ j (h:j < L.length),k≤j→L[j]=48) (h3:k=0∨∃ h:k - 1 < L.length,L[k - 1]≠48):Trim u k:=by
  subst hL
  exact ⟨by rw [← Lib.decDigits_length];exact h1,h2,h3⟩
theorem dsd_1:sd 4607182418800017408=(1000000000000000,-15):=by kernel_rfl
theorem ddd_1:Lib.decDigits 1000000000000000=[49,48,48,48,48,48,48,48,48,48,48,48,48,48,48,48]:=by kernel_rfl
theorem dtr_1:trimLen 1000000000000000=1:=(trim_len (dtrim ddd_1 (by decide) (by decide) (Or.inr ⟨by decide,by decide⟩))).symm
theorem dtext_1:pText 4607182418800017408=[49]:=by
  have hn:Lib.nDigits 1000000000000000=16:=by rw [← Lib.decDigits_length,ddd_1];rfl
  unfold pText
  rw [if_neg (by decide +kernel)]
  unfold fText
  rw [if_neg (by decide),if_neg (by decide),if_neg (by decide)]
  unfold pt
  rw [dsd_1]
  dsimp only
  rw [dtr_1,hn]
  unfold fB
  rw [if_neg (by decide),if_pos (by decide),ddd_1]
  decide
theorem dreal_1 (w:World) (hG:Glob2 w):Calls Tryz.prog 51 #[.string ⟨#[49]⟩] w fun e w'=>e=.returned (.tuple #[.float .f64 4607182418800017408,.int .i64 0])∧Below w.heap.size w w':=by
  have HA:Hid _:=dParse ⟨#[49]⟩ 4607182418800017408 (by decide) w (datof ⟨#[49]⟩ 1 4607182418800017408 (by decide) (by decide) (by decide) (by decide +kernel) dspecial_1 dread_1 w hG.glob)
  have HP:Hid (∀ W,Below w.heap.size w W→Calls Tryz.prog 26 #[.float .f64 4607182418800017408] W fun e w'=>e=.returned (.string ⟨#[49]⟩)∧Below W.heap.size W w'):=fun W hb=>by
    have:=print_all 4607182418800017408 (by decide) W (hG.below hb)
    rw [dtext_1] at this
    exact this
  go_enter Tryz.func51,Tryz.ntmps51
  go_wp2_with fail
  refine Calls.mono HA.out ?_
  rintro e w1 ⟨rfl,hb1⟩
  have HB1:Hid (Below w.heap.size w w1):=hb1
  go_wp2_with fail
  refine Calls.mono (HP.out w1 HB1.out) ?_
  rintro e w2 ⟨rfl,hb2⟩
  go_wp2
  go_ret2
  exact ⟨rfl,HB1.out.trans (hb2.mono HB1.out.size)⟩
end Go.Proofs.YtifapjammoahgaaGreatDoor.Rl
