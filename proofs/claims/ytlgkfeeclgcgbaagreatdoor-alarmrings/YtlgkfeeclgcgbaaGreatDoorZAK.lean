/- real.Parse AT ONE DIGIT (printed by gen_vi.py for 4). Own work of the verifier. -/
import Derived.Test.YtlgkfeeclgcgbaaGreatDoorZAJ
import Derived.WalkMore
set_option maxRecDepth 100000
set_option maxHeartbeats 4000000
namespace Go.Proofs.YtlgkfeeclgcgbaaGreatDoor.Rl
open Go.RowKit Go.Sort
theorem dspecial_4 (w:World):Calls Tryz.prog 179 #[.string ⟨#[52]⟩] w fun e w'=>e=.returned (.tuple #[.float .f64 0,.int .i64 0,.bool false])∧w'=w:=by
 go_enter Tryz.func179,Tryz.ntmps179
 go_wp2
 go_ret3
 exact ⟨rfl,rfl⟩
theorem dread_4 (w:World):Calls Tryz.prog 180 #[.string ⟨#[52]⟩] w fun e w'=>e=.returned (.tuple #[.int .u64 4,.int .i64 0,.bool false,.bool false,.bool false,.int .i64 1,.bool true])∧Below w.heap.size w w':=by
 go_enter Tryz.func180,Tryz.ntmps180
 go_wp2_with fail
 go_step3
 go_wp2_with fail
 go_step3
 go_wp2_with fail
 go_rounds 2
 go_wp2_with fail
 rw [Exit.noGoto_ret]
 show bodyPost _ _ _ _ _ _
 simp [bodyPost,results,Tryz.results180,go_sem]
 exact ⟨by decide,Below.refl _ _⟩
theorem dexact (n x:Nat) (hn:n < 100) (hx:floatOfInt .f64 (n:Int)=x) (w:World) (hGl:Glob w):Calls Tryz.prog 190 #[.int .u64 (n:Int),.int .i64 0,.bool false] w fun e w'=>e=.returned (.tuple #[.float .f64 x,.bool true])∧Below w.heap.size w w':=by
 have h52:=hGl.m52
 clear hGl
 go_enter Tryz.func190,Tryz.ntmps190
 go_wp2
 go_ret2
 exact ⟨rfl,Below.refl _ _⟩
theorem datof (s:ByteArray) (n x:Nat) (hn0:0 < n) (hn:n < 100) (_hs1:s.size=1) (hx:floatOfInt .f64 (n:Int)=x)
  (HS:Hid (∀ W,Calls Tryz.prog 179 #[.string s] W fun e w'=>e=.returned (.tuple #[.float .f64 0,.int .i64 0,.bool false])∧w'=W))
  (HR:Hid (∀ W,Calls Tryz.prog 180 #[.string s] W fun e w'=>e=.returned (.tuple #[.int .u64 (n:Int),.int .i64 0,.bool false,.bool false,.bool false,.int .i64 1,.bool true])∧Below W.heap.size W w')) (w:World) (hGl:Glob w) :
  Calls Tryz.prog 169 #[.string s] w fun e w'=>e=.returned (.tuple #[.float .f64 x,.int .i64 1,.nilIface])∧Below w.heap.size w w':=by
 have hn1:((n:Int) == 0)=false:=by rw [beq_eq_false_iff_ne];omega
 have HX:Hid _:=dexact n x hn hx
 clear hx
 go_enter Tryz.func169,Tryz.ntmps169
 go_wp2_with (first
  | (go_at_call 179;refine (HS.out _).mono ?_;rintro e w ⟨rfl,rfl⟩)
  | fail)
 refine (HR.out _).mono ?_
 rintro e w1 ⟨rfl,hb1⟩
 have hG1:=hGl.below hb1
 have ho:=hG1.opt
 go_wp2_with (first
  | (go_at_call 188;with_reducible refine (bool2_u64 _ _).mono ?_;rintro e w1 ⟨rfl,rfl⟩)
  | fail)
 refine (HX.out w1 hG1).mono ?_
 rintro e w2 ⟨rfl,hb2⟩
 go_wp2
 go_ret3
 exact ⟨rfl,hb1.trans (hb2.mono hb1.size)⟩
theorem dprefix (s:ByteArray) (q:Nat) (w:World) (HA:Hid (Calls Tryz.prog 169 #[.string s] w fun e w'=>e=.returned (.tuple #[.float .f64 q,.int .i64 1,.nilIface])∧Below w.heap.size w w')) :
  Calls Tryz.prog 154 #[.string s,.int .i64 64] w fun e w'=>e=.returned (.tuple #[.float .f64 q,.int .i64 1,.nilIface])∧Below w.heap.size w w':=by
 go_enter Tryz.func154,Tryz.ntmps154
 go_wp2_with fail
 refine HA.out.mono ?_
 rintro e w1 ⟨rfl,hb1⟩
 go_wp2
 go_ret3
 exact ⟨rfl,hb1⟩
theorem dparse (s:ByteArray) (q:Nat) (hs1:s.size=1) (w:World) (HA:Hid (Calls Tryz.prog 169 #[.string s] w fun e w'=>e=.returned (.tuple #[.float .f64 q,.int .i64 1,.nilIface])∧Below w.heap.size w w')) :
  Calls Tryz.prog 144 #[.string s,.int .i64 64] w fun e w'=>e=.returned (.tuple #[.float .f64 q,.nilIface])∧Below w.heap.size w w':=by
 go_enter Tryz.func144,Tryz.ntmps144
 go_wp2_with fail
 refine (dprefix s q w HA).mono ?_
 rintro e w1 ⟨rfl,hb1⟩
 go_wp2
 go_ret2
 exact ⟨rfl,hb1⟩
theorem dParse (s:ByteArray) (q:Nat) (hs1:s.size=1) (w:World) (HA:Hid (Calls Tryz.prog 169 #[.string s] w fun e w'=>e=.returned (.tuple #[.float .f64 q,.int .i64 1,.nilIface])∧Below w.heap.size w w')) :
  Calls Tryz.prog 125 #[.string s,.int .i64 64] w fun e w'=>e=.returned (.tuple #[.float .f64 q,.nilIface])∧Below w.heap.size w w':=by
 go_enter Tryz.func125,Tryz.ntmps125
 go_wp2_with fail
 refine (dparse s q hs1 w HA).mono ?_
 rintro e w1 ⟨rfl,hb1⟩
 go_wp2
 go_ret2
 exact ⟨rfl,hb1⟩
theorem dtrim {u k:Nat} {L:List UInt8} (hL:Lib.decDigits u=L) (h1:k≤L.length) (h2:∀ j (h:j < L.length),k≤j→L[j]=48) (h3:k=0∨∃ h:k - 1 < L.length,L[k - 1]≠48):Trim u k:=by
 subst hL
 exact ⟨by rw [← Lib.decDigits_length];exact h1,h2,h3⟩
theorem dsd_4:sd 4616189618054758400=(4000000000000000,-15):=by kernel_rfl
theorem ddd_4:Lib.decDigits 4000000000000000=[52,48,48,48,48,48,48,48,48,48,48,48,48,48,48,48]:=by kernel_rfl
theorem dtr_4:trimLen 4000000000000000=1:=(trim_len (dtrim ddd_4 (by decide) (by decide) (Or.inr ⟨by decide,by decide⟩))).symm
theorem dtext_4:pText 4616189618054758400=[52]:=by
 have hn:Lib.nDigits 4000000000000000=16:=by rw [← Lib.decDigits_length,ddd_4];rfl
 unfold pText
 rw [if_neg (by decide +kernel)]
 unfold fText
 rw [if_neg (by decide),if_neg (by decide),if_neg (by decide)]
 unfold pt
 rw [dsd_4]
 dsimp only
 rw [dtr_4,hn]
 unfold fB
 rw [if_neg (by decide),if_pos (by decide),ddd_4]
 decide
theorem dreal_4 (w:World) (hG:Glob2 w):Calls Tryz.prog 100 #[.string ⟨#[52]⟩] w fun e w'=>e=.returned (.tuple #[.float .f64 4616189618054758400,.int .i64 0])∧Below w.heap.size w w':=by
 have HA:Hid _:=dParse ⟨#[52]⟩ 4616189618054758400 (by decide) w (datof ⟨#[52]⟩ 4 4616189618054758400 (by decide) (by decide) (by decide) (by decide +kernel) dspecial_4 dread_4 w hG.glob)
 have HP:Hid (∀ W,Below w.heap.size w W→Calls Tryz.prog 126 #[.float .f64 4616189618054758400] W fun e w'=>e=.returned (.string ⟨#[52]⟩)∧Below W.heap.size W w'):=fun W hb=>by
  have:=print_all 4616189618054758400 (by decide) W (hG.below hb)
  rw [dtext_4] at this
  exact this
 go_enter Tryz.func100,Tryz.ntmps100
 go_wp2_with fail
 refine Calls.mono HA.out ?_
 rintro e w1 ⟨rfl,hb1⟩
 have HB1:Hid (Below w.heap.size w w1):=hb1
 go_wp2_with fail
 refine Calls.mono (HP.out w1 HB1.out) ?_
 rintro e w2 ⟨rfl,hb2⟩
 go_wp2
 go_ret2
 exact ⟨rfl,HB1.out.trans (hb2.mono HB1.out.size)⟩
end Go.Proofs.YtlgkfeeclgcgbaaGreatDoor.Rl
