/- THE ORDER OF FLOATS, the code's: comparisons, signs. Own work of the verifier. -/
import Derived.Test.YtifapjammoahgaaGreatDoorSAA
import Derived.Test.YtifapjammoahgaaGreatDoorSAL
import Derived.Test.YtifapjammoahgaaGreatDoorSAD
import Derived.Lib.SmallJoins
import Derived.WalkMore
import Derived.Deep.DeepCutAuto
import Derived.IntWalk
import Derived.Deep.CutBlock
namespace Go.Proofs.YtifapjammoahgaaGreatDoor.Rl
open Go.RowKit
def isN (x:Nat):Bool:=decide (9218868437227405312 < x % 9223372036854775808)
def ov (x:Nat):Int:=if x < 9223372036854775808 then (x:Int) else 9223372036854775808 - (x:Int)
theorem ov_sw (s:Bool) (a:Nat) (h:a < 9223372036854775808):ov (sw s a)=sr s a:=by
  unfold ov sw sr;cases s <;> simp <;> omega
theorem isN_sw (s:Bool) (a:Nat) (h:a < 9223372036854775808):isN (sw s a)=decide (9218868437227405312 < a):=by
  unfold isN sw;congr 2;cases s <;> simp <;> omega
theorem ord_nan {x:Nat} (hx:x < 18446744073709551616) (h:isN x=true) (y:Nat):FloatKind.f64.format.order x y=none∧FloatKind.f64.format.order y x=none:=by
  obtain ⟨s,a,rfl,ha⟩:=sw_of x hx
  rw [isN_sw s a ha] at h
  have h:=of_decide_eq_true h
  exact ⟨order_nan1 s a y h ha,order_nan2 s a y h ha⟩
theorem ord_num {x y:Nat} (hx:x < 18446744073709551616) (hy:y < 18446744073709551616) (h:isN x=false) (k:isN y=false):FloatKind.f64.format.order x y=some (compare (ov x) (ov y)):=by
  obtain ⟨s,a,rfl,ha⟩:=sw_of x hx
  obtain ⟨t,b,rfl,hb⟩:=sw_of y hy
  rw [isN_sw s a ha] at h
  rw [isN_sw t b hb] at k
  have h:=of_decide_eq_false h
  have k:=of_decide_eq_false k
  rw [ov_sw s a ha,ov_sw t b hb]
  exact order_all s t a b (by omega) (by omega)
end Go.Proofs.YtifapjammoahgaaGreatDoor.Rl
/- Print AT THREE FLOATS. Own work of the verifier. -/
set_option maxHeartbeats 1000000
namespace Go.Proofs.YtifapjammoahgaaGreatDoor.Rl
open Go.RowKit Go.Sort
theorem mf64bits (x:Nat) (w:World):(callFunc 34 #[.float .f64 x]).run Tryz.prog w=.ok (.value (.int .u64 (x:Int))) w:=by
  rw [run_callFunc_extern Tryz.func34 (by kernel_rfl) (by kernel_rfl) (by kernel_rfl) (e:=Extern.MathFloatBits.float64bits) (by kernel_rfl)]
  rfl
theorem mf64from (x:Int) (w:World):(callFunc 57 #[.int .u64 x]).run Tryz.prog w=.ok (.value (.float .f64 x.toNat)) w:=by
  rw [run_callFunc_extern Tryz.func57 (by kernel_rfl) (by kernel_rfl) (by kernel_rfl) (e:=Extern.MathFloatBits.float64frombits) (by kernel_rfl)]
  rfl
theorem clear_sign (x:Nat) (h:x < 18446744073709551616):bits .andNot .u64 (x:Int) 9223372036854775808=((x % 9223372036854775808:Nat):Int):=by
  have:=u64_andNot_nat x 9223372036854775808 (by omega) (by decide)
  rw [show ((9223372036854775808:Nat):Int)=9223372036854775808 from rfl] at this
  rw [this,show 18446744073709551615 - 9223372036854775808=2 ^ 63 - 1 from by decide,Nat.and_two_pow_sub_one_eq_mod]
theorem abs_any (x:Nat) (h:x < 18446744073709551616) (w:World):Calls Tryz.prog 37 #[.float .f64 x] w fun e w'=>e=.returned (.float .f64 (x % 9223372036854775808))∧w'=w:=by
  have hc:=clear_sign x h
  generalize x % 9223372036854775808=y at *
  go_enter Tryz.func37,Tryz.ntmps37
  go_wp2_with (first | simp only [mf64bits] | simp only [mf64from])
  go_ret
  exact ⟨rfl,rfl⟩
theorem hasExp_w (x:Nat) (b1 b2 b3 b4:Bool) (o1:(FloatKind.f64.format.order 0 x == some .lt)=b1) (o2:(FloatKind.f64.format.order x 4517329193108106637 == some .lt)=b2)
    (o3:(FloatKind.f64.format.order 4921056587992461136 x == some .lt || FloatKind.f64.format.order 4921056587992461136 x == some .eq)=b3) (o4:(FloatKind.f64.format.order x 9218868437227405311 == some .lt || FloatKind.f64.format.order x 9218868437227405311 == some .eq)=b4) (w:World) :
    Calls Tryz.prog 36 #[.float .f64 x] w fun e w'=>e=.returned (.bool (b1 && b2 || b3 && b4))∧w'=w:=by
  cases b1 <;> cases b2 <;> cases b3 <;> cases b4
  all_goals
    go_enter Tryz.func36,Tryz.ntmps36
    go_wp2
    go_ret
    exact ⟨rfl,rfl⟩
end Go.Proofs.YtifapjammoahgaaGreatDoor.Rl
/- Print AT THREE FLOATS. Own work of the verifier. -/
namespace Go.Proofs.YtifapjammoahgaaGreatDoor.Rl
open Go.RowKit Go.Sort
theorem ab (x:Nat) (h:x < 9223372036854775808) (w:World):Calls Tryz.prog 37 #[.float .f64 x] w fun e w'=>e=.returned (.float .f64 x)∧w'=w:=by
  have:=abs_any x (by omega) w
  rw [Nat.mod_eq_of_lt h] at this
  exact this
end Go.Proofs.YtifapjammoahgaaGreatDoor.Rl
/- Print AT EVERY FLOAT. Own work of the verifier. -/
set_option maxHeartbeats 1000000
namespace Go.Proofs.YtifapjammoahgaaGreatDoor.Rl
open Go.RowKit Go.Sort
theorem grow_below (w:World) (k:Nat) (os:Array Obj):Below w.heap.size w (grow (w.drewN k) os) :=
  ⟨rfl,rfl,rfl,by show w.heap.size≤(w.heap++os).size;rw [Array.size_append];omega,fun j hj=>by show (w.heap++os)[j]? =w.heap[j]?;rw [Array.getElem?_append_left hj]⟩
theorem opt_lt (a b:Int):(some (compare a b) == some Ordering.lt)=decide (a < b):=by
  rcases Int.lt_trichotomy a b with h | h | h
  · rw [Int.compare_eq_lt.2 h,decide_eq_true h];decide
  · rw [Int.compare_eq_eq.2 h,decide_eq_false (by omega)];decide
  · rw [Int.compare_eq_gt.2 h,decide_eq_false (by omega)];decide
theorem opt_le (a b:Int):(some (compare a b) == some Ordering.lt || some (compare a b) == some Ordering.eq)=decide (a≤b):=by
  rcases Int.lt_trichotomy a b with h | h | h
  · rw [Int.compare_eq_lt.2 h,decide_eq_true (by omega)];decide
  · rw [Int.compare_eq_eq.2 h,decide_eq_true (by omega)];decide
  · rw [Int.compare_eq_gt.2 h,decide_eq_false (by omega)];decide
def hasE (y:Nat):Bool:=decide (0 < y∧y < 4517329193108106637∨4921056587992461136≤y∧y≤9218868437227405311)
theorem hasExp_all (y:Nat) (hy:y < 9223372036854775808) (w:World) :
    Calls Tryz.prog 36 #[.float .f64 y] w fun e w'=>e=.returned (.bool (hasE y))∧w'=w:=by
  cases hn:isN y
  · have hn':y≤9218868437227405312:=by have:=of_decide_eq_false hn;omega
    have ov1:ov y=(y:Int):=if_pos hy
    have h:=hasExp_w y _ _ _ _ (by rw [ord_num (by decide) (by omega) (by decide) hn,opt_lt]) (by rw [ord_num (by omega) (by decide) hn (by decide),opt_lt]) (by rw [ord_num (by decide) (by omega) (by decide) hn,opt_le]) (by rw [ord_num (by omega) (by decide) hn (by decide),opt_le]) w
    rw [ov1,show ov 0=0 from by decide,show ov 4517329193108106637=4517329193108106637 from by decide,show ov 4921056587992461136=4921056587992461136 from by decide,show ov 9218868437227405311=9218868437227405311 from by decide] at h
    rw [show hasE y=(decide ((0:Int) < (y:Int)) && decide ((y:Int) < 4517329193108106637) || decide ((4921056587992461136:Int)≤(y:Int)) && decide ((y:Int)≤9218868437227405311)) from by
      unfold hasE
      rw [← Bool.decide_and,← Bool.decide_and,← Bool.decide_or]
      exact decide_eq_decide.2 (by omega)]
    exact h
  · have hn':9218868437227405312 < y:=by have:=of_decide_eq_true hn;omega
    have h:=hasExp_w y false false false false (by rw [(ord_nan (by omega) hn _).2];decide) (by rw [(ord_nan (by omega) hn _).1];decide) (by rw [(ord_nan (by omega) hn _).2];decide) (by rw [(ord_nan (by omega) hn _).1];decide) w
    rw [show hasE y=(false && false || false && false) from by unfold hasE;exact decide_eq_false (by omega)]
    exact h
structure Glob2 (w:World):Prop where
  glob:Glob w
  most:∃ m,w.cell? ⟨3,0,none⟩=some (.int .i64 m)
theorem Glob2.below {w w':World} (h:Glob2 w) (hb:Below w.heap.size w w'):Glob2 w':=by
  obtain ⟨m,hm⟩:=h.most
  exact ⟨h.glob.below hb,m,by rw [(bcell hb).1 _ _ (lt_of_cell hm),hm]⟩
theorem byte_at (a b:List UInt8) (c:UInt8) (h:c ∉ a):Lib.indexByte (a++c::b) c=(a.length:Int):=by
  induction a with
  | nil=>simp [Lib.indexByte]
  | cons y a ih =>
    have h1:c ∉ a:=fun k=>h (List.mem_cons_of_mem _ k)
    have h2:¬ (y == c)=true:=fun k=>h (by rw [eq_of_beq k];exact List.mem_cons_self)
    rw [List.cons_append,Lib.indexByte,if_neg h2,ih h1,if_neg (by rw [beq_iff_eq];omega),List.length_cons]
    omega
theorem cut_at (a b:List UInt8) (h:(101:UInt8) ∉ a):Lib.cut (a++101::b) [101]=(a,b,true):=by
  unfold Lib.cut
  rw [Lib.index_one,byte_at a b 101 h,if_pos (by omega),Int.toNat_natCast]
  simp
theorem dec_mem (u:Nat):∀ b ∈ Lib.decDigits u,48≤b.toNat∧b.toNat≤57:=by
  intro b hb
  rw [Lib.decDigits_eq] at hb
  obtain ⟨t,-,rfl⟩:=List.mem_map.1 hb
  unfold Lib.dg
  have:∀ r < 10,48≤(UInt8.ofNat (48+r)).toNat∧(UInt8.ofNat (48+r)).toNat≤57:=by decide
  exact this _ (Nat.mod_lt _ (by decide))
theorem not_101 {l:List UInt8} (h:∀ b ∈ l,b.toNat≤57):(101:UInt8) ∉ l:=fun k=>by have:=h _ k;exact absurd this (by decide)
theorem head_mem (neg:Bool) (u k:Nat):∀ b ∈ eHead neg u k,b.toNat≤57:=by
  have hg:((Lib.decDigits u).getD 0 0).toNat≤57:=by
    have:=dec_mem u
    revert this
    cases Lib.decDigits u with
    | nil=>intro _;decide
    | cons y l=>intro h;exact (h y List.mem_cons_self).2
  have hd:∀ b ∈ ((Lib.decDigits u).take k).drop 1,b.toNat≤57:=fun b hb=>(dec_mem u b (List.mem_of_mem_take (List.mem_of_mem_drop hb))).2
  have hs:∀ b ∈ sgn neg,b.toNat≤57:=by cases neg <;> decide
  intro b hb
  unfold eHead at hb
  by_cases h:k=1
  · rw [if_pos h] at hb
    rcases List.mem_append.1 hb with q | q
    · exact hs b q
    · rw [List.mem_singleton.1 q];exact hg
  · rw [if_neg h] at hb
    rcases List.mem_append.1 hb with q | q
    · rcases List.mem_append.1 q with q | q
      · exact hs b q
      · rcases List.mem_cons.1 q with q | q
        · rw [q];exact hg
        · rw [List.mem_singleton.1 q];decide
    · exact hd b q
theorem atoi_pos:∀ E < 400,Lib.atoi (43::xDig E)=some (E:Int):=by decide +kernel
theorem atoi_neg:∀ E < 400,Lib.atoi (45::xDig E)=some (-(E:Int)):=by decide +kernel
theorem xDig_len:∀ E < 400,(xDig E).length≤3:=by decide +kernel
theorem atoi_x (dp:Int) (h0:-390≤dp) (h1:dp≤390):Lib.atoi (xTail dp)=some (dp - 1)∧(xTail dp).length≤4:=by
  unfold xTail
  by_cases h:dp - 1 < 0
  · rw [if_pos h,atoi_neg _ (by omega)]
    refine ⟨congrArg some (by omega),?_⟩
    have:=xDig_len (1 - dp).toNat (by omega)
    rw [List.length_cons];omega
  · rw [if_neg h,atoi_pos _ (by omega)]
    refine ⟨congrArg some (by omega),?_⟩
    have:=xDig_len (dp - 1).toNat (by omega)
    rw [List.length_cons];omega
theorem bcat (a b:List UInt8):(⟨a.toArray⟩:ByteArray)++⟨b.toArray⟩=⟨(a++b).toArray⟩:=by
  apply ByteArray.ext;simp
noncomputable def xText (x:Nat):List UInt8:=eHead (decide (9223372036854775808≤x)) (sd x).1 (trimLen (sd x).1)++101::Lib.itoa (pt x - 1)
theorem withExp_all (x:Nat) (hx:x < 18446744073709551616) (h0:x % 9223372036854775808≠0) (h1:x % 9223372036854775808 < 9218868437227405312) (w:World) (hGl:Glob2 w) :
    Calls Tryz.prog 38 #[.float .f64 x] w fun r w'=>r=.returned (.string ⟨(xText x).toArray⟩)∧Below w.heap.size w w':=by
  obtain ⟨p0,p1⟩:=pt_bounds x h0 h1
  obtain ⟨a1,a2⟩:=atoi_x (pt x) p0 p1
  have HF:Hid (∀ w,Glob w→Calls Tryz.prog 39 #[.float .f64 x,.int .u8 101,.int .i64 (-1),.int .i64 64] w fun r w'=>r=.returned (.string ⟨(eText x).toArray⟩)∧Below w.heap.size w w'):=fun w hG=>Format_e x hx h0 h1 w hG
  have hd:=head_mem (decide (9223372036854775808≤x)) (sd x).1 (trimLen (sd x).1)
  have hH:(eHead (decide (9223372036854775808≤x)) (sd x).1 (trimLen (sd x).1)).length≤30:=by
    have h3:(Lib.decDigits (sd x).1).length≤20:=by rw [Lib.decDigits_length];exact Lib.nDigits_le20 _ (by have:=sd_bounds x h0 h1;omega)
    unfold eHead sgn
    split <;> split <;> simp only [List.length_append,List.length_cons,List.length_nil,List.length_drop,List.length_take] <;> omega
  have hY:(Lib.itoa (pt x - 1)).length≤30:=by
    have:=Lib.itoa_length_le (pt x - 1) (by omega) (by omega)
    omega
  have hl:(eText x).length < 4294967281:=by
    unfold eText eB
    rw [List.length_append,List.length_cons]
    omega
  have he:eText x=eHead (decide (9223372036854775808≤x)) (sd x).1 (trimLen (sd x).1)++101::xTail (pt x):=rfl
  unfold xText
  generalize eText x=T at *
  generalize eHead (decide (9223372036854775808≤x)) (sd x).1 (trimLen (sd x).1)=H at *
  generalize hp:pt x=p at *
  generalize hX:xTail p=X at *
  have hcut:=cut_at H X (not_101 hd)
  rw [← he] at hcut
  clear he hd h0 h1 hx hX hp
  have HC:Hid (∀ W,Glob2 W→Calls Tryz.prog 58 #[.string ⟨T.toArray⟩,.string ⟨#[101]⟩] W fun e w'=>e=.returned (.tuple #[.string ⟨H.toArray⟩,.string ⟨X.toArray⟩,.bool true])∧Below W.heap.size W w'):=fun W hG=>by
    obtain ⟨m,hm⟩:=hG.most
    have h:=Tryz.strings_Cut ⟨T.toArray⟩ ⟨#[101]⟩ m W hl hm
    rw [show Lib.cut (ByteArray.mk T.toArray).data.toList (ByteArray.mk #[101]).data.toList=(H,X,true) from hcut] at h
    refine h.mono ?_
    rintro r w' ⟨rfl,n,rfl⟩
    exact ⟨rfl,Below.drewN' (Below.refl _ _) _⟩
  have HA:Hid (∀ W,Calls Tryz.prog 59 #[.string ⟨X.toArray⟩] W fun e w'=>e=.returned (.tuple #[.int .i64 (p - 1),.nilIface])∧Below W.heap.size W w'):=fun W=>by
    refine (Tryz.strconv_Atoi ⟨X.toArray⟩ (p - 1) (by show X.toArray.size≤18;rw [List.size_toArray];omega) a1 W).mono ?_
    rintro r w' ⟨rfl,t,rfl⟩
    exact ⟨rfl,Joins.below_bytesWorld W.heap.size W 5 t (Nat.le_refl _)⟩
  have HI:Hid (∀ W,Glob2 W→Calls Tryz.prog 60 #[.int .i64 (p - 1)] W fun e w'=>e=.returned (.string ⟨(Lib.itoa (p - 1)).toArray⟩)∧Below W.heap.size W w'):=fun W hG=>by
    refine (Tryz.strconv_Itoa (p - 1) (by omega) (by omega) W hG.glob.tab).mono ?_
    rintro r w' ⟨rfl,k,os,rfl⟩
    exact ⟨rfl,grow_below W k os⟩
  have c1:(⟨H.toArray⟩:ByteArray)++⟨#[101]⟩=⟨(H++[101]).toArray⟩:=bcat H [101]
  have c2:(⟨(H++[101]).toArray⟩:ByteArray)++⟨(Lib.itoa (p - 1)).toArray⟩=⟨(H++101::Lib.itoa (p - 1)).toArray⟩:=by rw [bcat,List.append_assoc];rfl
  clear hcut a1 a2 hl p0 p1
  have hs1:¬ ((ByteArray.mk H.toArray).size+(ByteArray.mk #[101]).size > 9223372036854775807):=by show ¬ (H.toArray.size+1 > 9223372036854775807);rw [List.size_toArray];omega
  have hs2:¬ ((ByteArray.mk (H++[101]).toArray).size+(ByteArray.mk (Lib.itoa (p - 1)).toArray).size > 9223372036854775807):=by show ¬ ((H++[101]).toArray.size+(Lib.itoa (p - 1)).toArray.size > 9223372036854775807);rw [List.size_toArray,List.size_toArray,List.length_append,List.length_singleton];omega
  go_enter Tryz.func38,Tryz.ntmps38
  go_wp2_with fail
  refine (HF.out w hGl.glob).mono ?_
  rintro r w1 ⟨rfl,hb1⟩
  have hG1:=hGl.below hb1
  go_wp2_with fail
  refine (HC.out w1 hG1).mono ?_
  rintro r w2 ⟨rfl,hb2⟩
  have hG2:=hG1.below hb2
  go_wp2_with fail
  refine (HA.out w2).mono ?_
  rintro r w3 ⟨rfl,hb3⟩
  have hG3:=hG2.below hb3
  have hb3':Below w.heap.size w w3:=(hb1.trans (hb2.mono hb1.size)).trans (hb3.mono (by have:=hb1.size;have:=hb2.size;omega))
  go_wp2_with fail
  refine (HI.out w3 hG3).mono ?_
  rintro r w4 ⟨rfl,hb4⟩
  have hb4':=hb3'.trans (hb4.mono hb3'.size)
  go_wp2
  go_ret
  exact ⟨rfl,hb4'⟩
noncomputable def pText (x:Nat):List UInt8:=if hasE (x % 9223372036854775808) then xText x else fText x
theorem print_all (x:Nat) (hx:x < 18446744073709551616) (w:World) (hGl:Glob2 w) :
    Calls Tryz.prog 26 #[.float .f64 x] w fun r w'=>r=.returned (.string ⟨(pText x).toArray⟩)∧Below w.heap.size w w':=by
  have HB:Hid (∀ W,Calls Tryz.prog 37 #[.float .f64 x] W fun e w'=>e=.returned (.float .f64 (x % 9223372036854775808))∧w'=W):=fun W=>abs_any x hx W
  have HH:Hid (∀ W,Calls Tryz.prog 36 #[.float .f64 (x % 9223372036854775808)] W fun e w'=>e=.returned (.bool (hasE (x % 9223372036854775808)))∧w'=W):=fun W=>hasExp_all _ (by omega) W
  unfold pText
  cases he:hasE (x % 9223372036854775808)
  · have HF:Hid (∀ W,Glob W→Calls Tryz.prog 39 #[.float .f64 x,.int .u8 102,.int .i64 (-1),.int .i64 64] W fun r w'=>r=.returned (.string ⟨(fText x).toArray⟩)∧Below W.heap.size W w'):=fun W hG=>Format_f x hx (by have:=of_decide_eq_false he;omega) W hG
    rw [he] at HH
    rw [if_neg (by decide)]
    clear he
    generalize x % 9223372036854775808=y at *
    go_enter Tryz.func26,Tryz.ntmps26
    go_wp2_with (first
      | (go_at_call 37;with_reducible refine (HB.out _).mono ?_;rintro e w ⟨rfl,rfl⟩)
      | (go_at_call 36;with_reducible refine (HH.out _).mono ?_;rintro e w ⟨rfl,rfl⟩)
      | fail)
    refine (HF.out _ hGl.glob).mono ?_
    rintro r w1 ⟨rfl,hb⟩
    go_wp2
    go_ret
    exact ⟨rfl,hb⟩
  · have HF:Hid (∀ W,Glob2 W→Calls Tryz.prog 38 #[.float .f64 x] W fun r w'=>r=.returned (.string ⟨(xText x).toArray⟩)∧Below W.heap.size W w'):=fun W hG=>withExp_all x hx (by have:=of_decide_eq_true he;omega) (by have:=of_decide_eq_true he;omega) W hG
    rw [he] at HH
    rw [if_pos rfl]
    clear he
    generalize x % 9223372036854775808=y at *
    go_enter Tryz.func26,Tryz.ntmps26
    go_wp2_with (first
      | (go_at_call 37;with_reducible refine (HB.out _).mono ?_;rintro e w ⟨rfl,rfl⟩)
      | (go_at_call 36;with_reducible refine (HH.out _).mono ?_;rintro e w ⟨rfl,rfl⟩)
      | fail)
    refine (HF.out _ hGl).mono ?_
    rintro r w1 ⟨rfl,hb⟩
    go_wp2
    go_ret
    exact ⟨rfl,hb⟩
end Go.Proofs.YtifapjammoahgaaGreatDoor.Rl
/- readFloat AT DECIMAL TEXTS, for whatever the reader of its digits keeps. Own work of the verifier. -/
set_option maxRecDepth 100000
set_option maxHeartbeats 8000000
namespace Go.Proofs.YtifapjammoahgaaGreatDoor.Rl
open Go.RowKit Go.Sort
theorem low_list:∀ c:Nat,c < 102→c < 88∨c=101→(bits .or .u8 (c:Int) 32 == 120)=false:=by decide +kernel
theorem low_ne (c:Nat) (h:c < 88∨c=101):(bits .or .u8 (c:Int) 32 == 120)=false:=low_list c (by omega) h
theorem low_e:bits .or .u8 101 32=101:=by decide +kernel
theorem lower_ne (c:Nat) (h:c < 88∨c=101) (W:World):Calls Tryz.prog 143 #[.int .u8 (c:Int)] W fun e w'=>(∃ r:Int,e=.returned (.int .u8 r)∧(r == 120)=false)∧w'=W :=
  (Tryz.internal_strconv_lower (c:Int) W).mono fun _ _ h'=>⟨⟨_,h'.1,low_ne c h⟩,h'.2⟩
theorem lower_e (c:Nat) (hc:c=101) (W:World):Calls Tryz.prog 143 #[.int .u8 (c:Int)] W fun e w'=>e=.returned (.int .u8 101)∧w'=W:=by
  subst hc
  exact (Tryz.internal_strconv_lower 101 W).mono fun e w' h'=>⟨by rw [h'.1,low_e],h'.2⟩
def xOut (M N K:Nat) (P:Int) (a:Bool) (E:Int):Int:=if M=0 then 0 else (if a then P else (N:Int))+E - (K:Int)
theorem read_gen (l:List UInt8) (hl:l.length≤25) (neg:Bool) (i0:Nat) (h0:i0 < l.length)
    (hsg:neg=false∧i0=0∧l[0].toNat≠43∧l[0].toNat≠45∨neg=true∧i0=1∧l[0].toNat=45)
    (D:Nat→Nat→Nat→Nat→Int→Bool→Bool→Prop) (X:Nat→Nat→Prop) (R:Nat→Int→Prop)
    (hhex:∀ (h:i0+1 < l.length),l[i0+1].toNat < 88∨l[i0+1].toNat=101)
    (hD:D i0 0 0 0 0 false false)
    (h1:∀ j M N K P a b,D j M N K P a b→M < 18446744073709551616∧N≤j∧K≤N∧(K < 19→M < 1000000000000000000)∧-25≤P∧P≤25)
    (h2:∀ j (hj:j < l.length) M N K P a b,D j M N K P a b→l[j].toNat=46∨48≤l[j].toNat∧l[j].toNat≤57∨l[j].toNat=101)
    (h3:∀ j (hj:j < l.length) M N K P a b,D j M N K P a b→l[j].toNat=46→a=false∧D (j+1) M N K (N:Int) true b)
    (h4:∀ j (hj:j < l.length) M N K P a b,D j M N K P a b→l[j].toNat=48→N=0→D (j+1) M N K (P - 1) a true)
    (h5:∀ j (hj:j < l.length) M N K P a b,D j M N K P a b→48≤l[j].toNat→l[j].toNat≤57→¬ (l[j].toNat=48∧N=0) →
      (K < 19→D (j+1) (M*10+(l[j].toNat - 48)) (N+1) (K+1) P a true)∧(¬ K < 19→l[j].toNat=48∧D (j+1) M (N+1) K P a true))
    (h6:∀ M N K P a b,D l.length M N K P a b→b=true∧R M (xOut M N K P a 0))
    (h7:∀ j (hj:j < l.length) M N K P a b,D j M N K P a b→l[j].toNat=101→b=true∧∃ h:j+1 < l.length,
      (l[j+1].toNat=45∧(∃ h':j+2 < l.length,X (j+2) 0)∧∀ E,X l.length E→R M (xOut M N K P a (-(E:Int)))) ∨
      (48≤l[j+1].toNat∧l[j+1].toNat≤57∧X (j+1) 0∧∀ E,X l.length E→R M (xOut M N K P a (E:Int))))
    (h8:∀ k E,X k E→E < 1000)
    (h9:∀ k (hk:k < l.length) E,X k E→48≤l[k].toNat∧l[k].toNat≤57∧X (k+1) (E*10+(l[k].toNat - 48)))
    (w:World) :
    Calls Tryz.prog 182 #[.string ⟨l.toArray⟩] w fun e w'=>(∃ (M:Nat) (x:Int),e=.returned (.tuple #[.int .u64 (M:Int),.int .i64 x,.bool neg,.bool false,.bool false,.int .i64 (l.length:Int),.bool true])∧R M x)∧w'=w:=by
  have hB:i0 < (ByteArray.mk l.toArray).size:=by show i0 < l.toArray.size;simpa using h0
  have hB0:0 < (ByteArray.mk l.toArray).size:=by omega
  have hbe:((ByteArray.mk l.toArray)[0]'hB0).toNat=l[0].toNat:=rfl
  have hlen:(l.length:Int)≤25:=by omega
  have hnil:¬ l=[]:=fun h=>by subst h;simp at h0
  have H1:Hid _:=h1
  have H2:Hid _:=h2
  have H3:Hid _:=h3
  have H4:Hid _:=h4
  have H5:Hid _:=h5
  have H6:Hid _:=h6
  have H7:Hid _:=h7
  have H8:Hid _:=h8
  have H9:Hid _:=h9
  have HD:Hid _:=hD
  have HX:Hid _:=hhex
  have HLn:Hid _:=@lower_ne
  have HLe:Hid _:=@lower_e
  clear h1 h2 h3 h4 h5 h6 h7 h8 h9 hD hhex
  go_enter Tryz.func182,Tryz.ntmps182
  go_wp2_with fail
  go_step3
  go_upto_block 0 with fail
  go_cut [4,7] from 21 (fun s t W=>s=.bool neg∧t=.int .i64 (i0:Int)∧W=w)
  case first =>
    as_aux_lemma =>
      rcases hsg with ⟨rfl,rfl,hm,hm'⟩ | ⟨rfl,rfl,hm⟩
      · have t1:((((ByteArray.mk l.toArray)[0]'hB0).toNat:Int) == 43)=false:=by rw [beq_eq_false_iff_ne,hbe];omega
        have t2:((((ByteArray.mk l.toArray)[0]'hB0).toNat:Int) == 45)=false:=by rw [beq_eq_false_iff_ne,hbe];omega
        go_wp2_with fail
        go_meet
        exact ⟨rfl,rfl,rfl⟩
      · have t1:((((ByteArray.mk l.toArray)[0]'hB0).toNat:Int) == 43)=false:=by rw [beq_eq_false_iff_ne,hbe];omega
        have t2:((((ByteArray.mk l.toArray)[0]'hB0).toNat:Int) == 45)=true:=by rw [beq_iff_eq,hbe];omega
        go_wp2_with fail
        go_meet
        exact ⟨rfl,rfl,rfl⟩
  case rest =>
  obtain ⟨rfl,rfl,rfl⟩:=hcut
  have hi25:(i0:Int)≤1:=by omega
  have hi0:(i0:Int) < (l.length:Int):=by omega
  clear hsg hbe
  go_upto_region 12 with fail
  go_cut [54] from 21 (fun s W=>s=.bool false∧W=wc)
  case first =>
    as_aux_lemma =>
      go_wp2_with (first
        | (go_at_call 143;refine (HLn.out _ (HX.out (by omega)) _).mono ?_;rintro e w' ⟨⟨r,rfl,hr⟩,rfl⟩)
        | fail)
      all_goals (go_meet;exact ⟨rfl,rfl⟩)
  case rest =>
  obtain ⟨rfl,rfl⟩:=hcut
  clear HX HLn
  go_wp2_with fail
  go_step3
  go_wp2_with fail
  go_loopw [2,5,7,9,13,14,15,16,17,18] (fun m tr i us sd sg nd nm dp _ wr=>∃ (j M N K:Nat) (P:Int) (a b:Bool),j≤l.length∧m=.int .u64 (M:Int)∧tr=.bool false∧i=.int .i64 (j:Int)∧us=.bool false∧sd=.bool a∧sg=.bool b∧nd=.int .i64 (N:Int)∧nm=.int .i64 (K:Int)∧dp=.int .i64 P∧Hid (D j M N K P a b)∧wr=wc) (fun _ _ i _ _ _ _ _ _ _ _=>l.length - (intOf i).toNat)
  case atStart=>exact ⟨i0,0,0,0,0,false,false,by omega,rfl,rfl,rfl,rfl,rfl,rfl,rfl,rfl,rfl,HD,rfl⟩
  case round =>
    obtain ⟨j,M,N,K,P,a,b,hj,rfl,rfl,rfl,rfl,rfl,rfl,rfl,rfl,rfl,hI,rfl⟩:=hrel
    obtain ⟨b1,b2,b3,b4,b5,b6⟩:=H1.out _ _ _ _ _ _ _ hI.out
    clear hi0 hi25
    by_cases hlt:j < l.length
    · have hlt':(j:Int) < (l.length:Int):=by omega
      have hBj:j < (ByteArray.mk l.toArray).size:=by show j < l.toArray.size;simpa using hlt
      have hbj:((ByteArray.mk l.toArray)[j]'hBj).toNat=l[j].toNat:=rfl
      rcases H2.out j hlt _ _ _ _ _ _ hI.out with c46 | ⟨c48,c57⟩ | c101
      · obtain ⟨rfl,hN⟩:=H3.out j hlt _ _ _ _ _ _ hI.out c46
        have HN:Hid _:=hN
        have t95:((((ByteArray.mk l.toArray)[j]'hBj).toNat:Int) == 95)=false:=by rw [beq_eq_false_iff_ne,hbj];omega
        have t46:((((ByteArray.mk l.toArray)[j]'hBj).toNat:Int) == 46)=true:=by rw [beq_iff_eq,hbj];omega
        clear hbj c46 hN hI b1 b4 b5 b6
        as_aux_lemma =>
          go_wp2_with fail
          exact ⟨⟨j+1,M,N,K,N,true,b,by omega,rfl,rfl,by go_num,rfl,rfl,rfl,rfl,rfl,rfl,HN,True.intro⟩,by simp [intOf];omega⟩
      · have t95:((((ByteArray.mk l.toArray)[j]'hBj).toNat:Int) == 95)=false:=by rw [beq_eq_false_iff_ne,hbj];omega
        have t46:((((ByteArray.mk l.toArray)[j]'hBj).toNat:Int) == 46)=false:=by rw [beq_eq_false_iff_ne,hbj];omega
        have t48:(48:Int)≤(((ByteArray.mk l.toArray)[j]'hBj).toNat:Int):=by rw [hbj];omega
        have t57:(((ByteArray.mk l.toArray)[j]'hBj).toNat:Int)≤57:=by rw [hbj];omega
        by_cases cz:l[j].toNat=48∧N=0
        · obtain ⟨c0,rfl⟩:=cz
          have HN:Hid _:=H4.out j hlt _ _ _ _ _ _ hI.out c0 rfl
          have t0:((((ByteArray.mk l.toArray)[j]'hBj).toNat:Int) == 48)=true:=by rw [beq_iff_eq,hbj];omega
          clear hbj c48 c57 c0 hI b1 b4
          as_aux_lemma =>
            go_wp2_with fail
            exact ⟨⟨j+1,M,0,K,P - 1,a,true,by omega,rfl,rfl,by go_num,rfl,rfl,rfl,rfl,rfl,by go_num,HN,True.intro⟩,by simp [intOf];omega⟩
        · obtain ⟨k1,k2⟩:=H5.out j hlt _ _ _ _ _ _ hI.out c48 c57 cz
          have K1:Hid _:=k1
          have K2:Hid _:=k2
          clear k1 k2
          by_cases cK:K < 19
          · have HN:Hid _:=K1.out cK
            have tK:(K:Int) < 19:=by omega
            have hM:=b4 cK
            clear K1 K2 b4 hI
            by_cases c0:l[j].toNat=48
            · have t0:((((ByteArray.mk l.toArray)[j]'hBj).toNat:Int) == 48)=true:=by rw [beq_iff_eq,hbj];omega
              have tN:((N:Int) == 0)=false:=by rw [beq_eq_false_iff_ne];omega
              clear hbj c0 cz
              as_aux_lemma =>
                go_wp2_with fail
                refine ⟨⟨j+1,_,N+1,K+1,P,a,true,by omega,?_,rfl,by go_num,rfl,rfl,rfl,by go_num,by go_num,rfl,HN,True.intro⟩,by simp [intOf];omega⟩
                show Value.int .u64 ((M:Int)*10+((l[j].toNat:Int) - 48))=_
                congr 1
                omega
            · have t0:((((ByteArray.mk l.toArray)[j]'hBj).toNat:Int) == 48)=false:=by rw [beq_eq_false_iff_ne,hbj];omega
              clear hbj c0 cz
              as_aux_lemma =>
                go_wp2_with fail
                refine ⟨⟨j+1,_,N+1,K+1,P,a,true,by omega,?_,rfl,by go_num,rfl,rfl,rfl,by go_num,by go_num,rfl,HN,True.intro⟩,by simp [intOf];omega⟩
                show Value.int .u64 ((M:Int)*10+((l[j].toNat:Int) - 48))=_
                congr 1
                omega
          · obtain ⟨c0,hN⟩:=K2.out cK
            have HN:Hid _:=hN
            have tK:¬ (K:Int) < 19:=by omega
            have t0:((((ByteArray.mk l.toArray)[j]'hBj).toNat:Int) == 48)=true:=by rw [beq_iff_eq,hbj];omega
            have t0':((((ByteArray.mk l.toArray)[j]'hBj).toNat:Int) != 48)=false:=by rw [bne_eq_false_iff_eq,hbj];omega
            have tN:((N:Int) == 0)=false:=by rw [beq_eq_false_iff_ne];omega
            clear hbj c0 cz hN K1 K2 b4 hI
            as_aux_lemma =>
              go_wp2_with fail
              exact ⟨⟨j+1,M,N+1,K,P,a,true,by omega,rfl,rfl,by go_num,rfl,rfl,rfl,by go_num,rfl,rfl,HN,True.intro⟩,by simp [intOf];omega⟩
      · obtain ⟨rfl,h',hex⟩:=H7.out j hlt _ _ _ _ _ _ hI.out c101
        have HE:Hid _:=hex
        have t95:((((ByteArray.mk l.toArray)[j]'hBj).toNat:Int) == 95)=false:=by rw [beq_eq_false_iff_ne,hbj];omega
        have t46:((((ByteArray.mk l.toArray)[j]'hBj).toNat:Int) == 46)=false:=by rw [beq_eq_false_iff_ne,hbj];omega
        have t48:(48:Int)≤(((ByteArray.mk l.toArray)[j]'hBj).toNat:Int):=by rw [hbj];omega
        have t57:¬ (((ByteArray.mk l.toArray)[j]'hBj).toNat:Int)≤57:=by rw [hbj];omega
        clear hbj hex hI
        as_aux_lemma =>
          go_upto_if 142 with fail
          go_cut [17] from 21 (fun s W=>s=.int .i64 (if a then P else (N:Int))∧W=wr)
          case first =>
            as_aux_lemma =>
              cases a <;> (go_wp2_with fail;go_meet;exact ⟨rfl,rfl⟩)
          case rest =>
          obtain ⟨rfl,rfl⟩:=hcut
          have hQ0:-25≤(if a then P else (N:Int)):=by split <;> omega
          have hQ1:(if a then P else (N:Int))≤25:=by split <;> omega
          unfold xOut at HE
          generalize (if a then P else (N:Int))=Q at *
          have HE':Hid _:=HE.out
          clear HE
          have hB1:j+1 < (ByteArray.mk l.toArray).size:=by show j+1 < l.toArray.size;simpa using h'
          have hb1:((ByteArray.mk l.toArray)[j+1]'hB1).toNat=l[j+1].toNat:=rfl
          have hj1:(j:Int)+1 < (l.length:Int):=by omega
          go_upto_block 4 with (first
            | (go_at_call 143;refine (HLe.out _ c101 _).mono ?_;rintro e w' ⟨rfl,rfl⟩)
            | fail)
          go_cut [7,19] from 21 (fun s t W=>∃ (st:Nat) (sg:Int),s=.int .i64 (st:Int)∧t=.int .i64 sg∧Hid (X st 0)∧st < l.length∧(sg=1∧Hid (∀ E,X l.length E→R M (if M=0 then 0 else Q+(E:Int) - (K:Int)))∨sg=-1∧Hid (∀ E,X l.length E→R M (if M=0 then 0 else Q+-(E:Int) - (K:Int))))∧W=w')
          case first =>
            as_aux_lemma =>
              rcases HE'.out with ⟨m45,⟨h2',hX0⟩,hRE⟩ | ⟨m48,m57,hX0,hRE⟩
              · have u43:((((ByteArray.mk l.toArray)[j+1]'hB1).toNat:Int) == 43)=false:=by rw [beq_eq_false_iff_ne,hb1];omega
                have u45:((((ByteArray.mk l.toArray)[j+1]'hB1).toNat:Int) == 45)=true:=by rw [beq_iff_eq,hb1];omega
                have u43':((l[j+1].toNat:Int) == 43)=false:=by rw [beq_eq_false_iff_ne];omega
                have u45':((l[j+1].toNat:Int) == 45)=true:=by rw [beq_iff_eq];omega
                have HX0:Hid _:=hX0
                have HRE:Hid _:=hRE
                clear hb1 hX0 hRE HE' m45
                go_wp2_with fail
                go_meet
                exact ⟨j+2,-1,by simp;omega,rfl,HX0,by omega,Or.inr ⟨rfl,HRE⟩,rfl⟩
              · have u43:((((ByteArray.mk l.toArray)[j+1]'hB1).toNat:Int) == 43)=false:=by rw [beq_eq_false_iff_ne,hb1];omega
                have u45:((((ByteArray.mk l.toArray)[j+1]'hB1).toNat:Int) == 45)=false:=by rw [beq_eq_false_iff_ne,hb1];omega
                have u43':((l[j+1].toNat:Int) == 43)=false:=by rw [beq_eq_false_iff_ne];omega
                have u45':((l[j+1].toNat:Int) == 45)=false:=by rw [beq_eq_false_iff_ne];omega
                have HX0:Hid _:=hX0
                have HRE:Hid _:=hRE
                clear hb1 hX0 hRE HE' m48 m57
                go_wp2_with fail
                go_meet
                exact ⟨j+1,1,by simp,rfl,HX0,by omega,Or.inl ⟨rfl,HRE⟩,rfl⟩
          case rest =>
          obtain ⟨st,sg,rfl,rfl,HX0,hst,hsgn,rfl⟩:=hcut
          have hsg1:sg=1∨sg=-1:=by rcases hsgn with ⟨h,_⟩ | ⟨h,_⟩ <;> simp [h]
          have HS:Hid _:=hsgn
          clear hsgn HE' hb1 t95 t46 t48 t57
          have hst':(st:Int) < (l.length:Int):=by omega
          have hBs:st < (ByteArray.mk l.toArray).size:=by show st < l.toArray.size;simpa using hst
          have hbs:((ByteArray.mk l.toArray)[st]'hBs).toNat=l[st].toNat:=rfl
          obtain ⟨n1,n2,_⟩:=H9.out st hst 0 HX0.out
          have u48:¬ (((ByteArray.mk l.toArray)[st]'hBs).toNat:Int) < 48:=by rw [hbs];omega
          have u57:¬ (57:Int) < (((ByteArray.mk l.toArray)[st]'hBs).toNat:Int):=by rw [hbs];omega
          clear hbs n1 n2
          go_wp2_with fail
          go_loopw [7,9,20] (fun i us ev W=>∃ k E:Nat,k≤l.length∧i=.int .i64 (k:Int)∧us=.bool false∧ev=.int .i64 (E:Int)∧Hid (X k E)∧W=wc) (fun i _ _ _=>l.length - (intOf i).toNat)
          case atStart=>exact ⟨st,0,by omega,rfl,rfl,rfl,HX0,rfl⟩
          case round =>
            obtain ⟨k,E,hk,rfl,rfl,rfl,hXI,rfl⟩:=hrel
            have hE9:=H8.out _ _ hXI.out
            clear u48 u57
            by_cases hkl:k < l.length
            · have hkl':(k:Int) < (l.length:Int):=by omega
              have hBk:k < (ByteArray.mk l.toArray).size:=by show k < l.toArray.size;simpa using hkl
              have hbk:((ByteArray.mk l.toArray)[k]'hBk).toNat=l[k].toNat:=rfl
              obtain ⟨n1,n2,n3⟩:=H9.out k hkl E hXI.out
              have N3:Hid _:=n3
              have v48:(48:Int)≤(((ByteArray.mk l.toArray)[k]'hBk).toNat:Int):=by rw [hbk];omega
              have v57:(((ByteArray.mk l.toArray)[k]'hBk).toNat:Int)≤57:=by rw [hbk];omega
              have v95:((((ByteArray.mk l.toArray)[k]'hBk).toNat:Int) == 95)=false:=by rw [beq_eq_false_iff_ne,hbk];omega
              have vE:(E:Int) < 10000:=by omega
              clear hbk n3 hXI
              as_aux_lemma =>
                go_wp2_with fail
                refine ⟨⟨k+1,_,by omega,by go_num,rfl,?_,N3,True.intro⟩,by simp [intOf];omega⟩
                show Value.int .i64 ((E:Int)*10+(l[k].toNat:Int) - 48)=_
                congr 1
                omega
            · obtain rfl:k=l.length:=by omega
              have hkl':¬ (l.length:Int) < (l.length:Int):=by omega
              as_aux_lemma =>
                rcases HS.out with ⟨rfl,hRE⟩ | ⟨rfl,hRE⟩
                · have HR:=hRE.out E hXI.out
                  clear hXI hRE HS
                  by_cases hM:M=0
                  · subst hM
                    rw [if_pos rfl] at HR
                    have HR':Hid _:=HR
                    clear HR
                    go_wp2_with fail
                    show bodyPost _ _ _ _ _ _
                    simp [bodyPost,results,Tryz.results182,go_sem]
                    exact ⟨0,0,⟨rfl,rfl⟩,HR'.out⟩
                  · rw [if_neg hM] at HR
                    have tM:((M:Int) != 0)=true:=by rw [bne_iff_ne];omega
                    have HR':Hid _:=HR
                    clear HR
                    go_wp2_with fail
                    show bodyPost _ _ _ _ _ _
                    simp [bodyPost,results,Tryz.results182,go_sem]
                    refine ⟨M,_,⟨rfl,?_⟩,HR'.out⟩
                    omega
                · have HR:=hRE.out E hXI.out
                  clear hXI hRE HS
                  by_cases hM:M=0
                  · subst hM
                    rw [if_pos rfl] at HR
                    have HR':Hid _:=HR
                    clear HR
                    go_wp2_with fail
                    show bodyPost _ _ _ _ _ _
                    simp [bodyPost,results,Tryz.results182,go_sem]
                    exact ⟨0,0,⟨rfl,rfl⟩,HR'.out⟩
                  · rw [if_neg hM] at HR
                    have tM:((M:Int) != 0)=true:=by rw [bne_iff_ne];omega
                    have HR':Hid _:=HR
                    clear HR
                    go_wp2_with fail
                    show bodyPost _ _ _ _ _ _
                    simp [bodyPost,results,Tryz.results182,go_sem]
                    refine ⟨M,_,⟨rfl,?_⟩,HR'.out⟩
                    omega
    · obtain rfl:j=l.length:=by omega
      have hlt':¬ (l.length:Int) < (l.length:Int):=by omega
      obtain ⟨rfl,hR⟩:=H6.out _ _ _ _ _ _ hI.out
      unfold xOut at hR
      have HR0:Hid _:=hR
      clear hI b1 b4 hR
      as_aux_lemma =>
        go_upto_if 142 with fail
        go_cut [17] from 21 (fun s W=>s=.int .i64 (if a then P else (N:Int))∧W=wr)
        case first =>
          as_aux_lemma =>
            cases a <;> (go_wp2_with fail;go_meet;exact ⟨rfl,rfl⟩)
        case rest =>
        obtain ⟨rfl,rfl⟩:=hcut
        have hQ0:-25≤(if a then P else (N:Int)):=by split <;> omega
        have hQ1:(if a then P else (N:Int))≤25:=by split <;> omega
        have HR:=HR0.out
        clear HR0
        generalize (if a then P else (N:Int))=Q at *
        by_cases hM:M=0
        · subst hM
          rw [if_pos rfl] at HR
          have HR':Hid _:=HR
          clear HR
          go_wp2_with fail
          show bodyPost _ _ _ _ _ _
          simp [bodyPost,results,Tryz.results182,go_sem]
          exact ⟨0,0,⟨rfl,rfl⟩,HR'.out⟩
        · rw [if_neg hM] at HR
          have tM:((M:Int) != 0)=true:=by rw [bne_iff_ne];omega
          have HR':Hid _:=HR
          clear HR
          go_wp2_with fail
          show bodyPost _ _ _ _ _ _
          simp [bodyPost,results,Tryz.results182,go_sem]
          refine ⟨M,_,⟨rfl,?_⟩,HR'.out⟩
          omega
end Go.Proofs.YtifapjammoahgaaGreatDoor.Rl
