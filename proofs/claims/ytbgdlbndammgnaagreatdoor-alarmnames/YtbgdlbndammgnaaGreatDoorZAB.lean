/- COUNTED, the law's own. Own work of the verifier. -/
import Derived.Test.YtbgdlbndammgnaaGreatDoorZAA
import Derived.Laws.OwnMore
import Derived.Test.YtbgdlbndammgnaaGreatDoorRows
import Derived.WalkKit
import Derived.WalkSpells
import Derived.RowKit3
import Derived.Below
import Derived.Laws.Externs
import Derived.Shelf.Spec.BitsCarry
import Derived.Outline
import Derived.Deep.QuietTactic
import Derived.BigQuiet
import Derived.Deep.RegionHeld3
import Derived.Laws.Bits64
import Derived.Lib.Zigzag
import Derived.Laws.FloatArith
import Derived.RangeFuncNested
import Derived.RangeFuncBound
import Derived.RangeFuncCalls
import Derived.RangeFuncLeaves
import Derived.Shelf.Abstract
import Derived.Shelf.RegionOpen
import Derived.OwnWalkIn
import Derived.TacticsInMore
import Derived.LoopNIn
import Derived.LoopIn
namespace Go.Proofs.YtbgdlbndammgnaaGreatDoor
open Go.RowKit
def ex (O:List Cn):List Int:=O.flatMap (fun c=>List.replicate c.2 c.1)
theorem rise_few:∀ (O:List Cn) (a:Nat),Rise O→(∀ c ∈ O,(a:Int)≤c.1∧c.1 < 819200)→a≤819200→O.length+a≤819200
  | [],a,_,_,ha=>by simpa using ha
  | c::O,a,hr,hb,_=>by
    obtain ⟨h1,h2⟩:=List.pairwise_cons.1 hr
    have hc:=hb c (by simp)
    have:=rise_few O (c.1.toNat+1) h2 (fun d hd=>by have:=h1 d hd;have:=hb d (by simp [hd]);omega) (by omega)
    simp only [List.length_cons]
    omega
end Go.Proofs.YtbgdlbndammgnaaGreatDoor
/- THE WALK OF THE QUANTILES' LAW, for whatever keeps the document's answers. Own work of the verifier. -/
namespace Go.Proofs.YtbgdlbndammgnaaGreatDoor
open Go.RowKit
def RowA (w:World) (a:Addr) (L:List Cn):Prop:=∀ j u,(fl L)[j]? =some u→w.cell? (a.add j)=some u
theorem RowA.below {w w1:World} {a:Addr} {L:List Cn} (h:RowA w a L) (hb:Below w.heap.size w w1):RowA w1 a L:=fun j u hu=>(hb.cell (lt_of_cell (h j u hu))).trans (h j u hu)
theorem RowA.nil (w:World) (a:Addr):RowA w a []:=fun j u hu=>by simp [fl] at hu
theorem RowA.row {w:World} {a:Addr} {L:List Cn} (h:RowA w a L) (hne:L≠[]):∃ b o,a=⟨b,o,none⟩∧RowC w b o L:=by
  have h0:0 < L.length:=List.length_pos_iff.2 hne
  obtain ⟨b,o,s⟩:=a
  have hs:s=none:=by
    have:=World.cell?_spot (h (0*2) _ (fl_get L 0 h0).1)
    simpa [Addr.add] using this
  subst hs
  refine ⟨b,o,rfl,fun i hi=>?_⟩
  obtain ⟨g1,g2⟩:=fl_get L i hi
  have r1:=h _ _ g1
  have r2:=h _ _ g2
  rw [Addr.add_lit] at r1 r2
  exact ⟨r1,by rw [← Nat.add_assoc] at r2;exact r2⟩
def SN (w:World) (v:Value) (L:List Cn):Prop:=(v=.slice none 0 0∧L=[])∨∃ a cap,v=.slice (some a) L.length cap∧L.length≤cap∧RowA w a L
theorem SN.sc2 {w:World} {v:Value} {L:List Cn} (h:SN w v L):∃ ao b o cap,v=.slice ao L.length cap∧(L≠[]→ao=some ⟨b,o,none⟩)∧RowC w b o L∧L.length≤cap:=by
  rcases h with ⟨rfl,rfl⟩ | ⟨a,cap,rfl,hc,hr⟩
  · exact ⟨none,0,0,0,rfl,fun k=>absurd rfl k,(fun i hi=>by simp at hi),Nat.zero_le _⟩
  · by_cases hne:L=[]
    · subst hne
      exact ⟨some a,0,0,cap,rfl,fun k=>absurd rfl k,(fun i hi=>by simp at hi),hc⟩
    · obtain ⟨b,o,e,hr2⟩:=hr.row hne
      exact ⟨_,b,o,cap,rfl,fun _=>by rw [e],hr2,hc⟩
theorem SN.sc {w:World} {v:Value} {L:List Cn} (h:SN w v L):SC w v L:=by
  obtain ⟨ao,b,o,cap,h1,h2,h3,_⟩:=h.sc2
  exact ⟨ao,b,o,cap,h1,h2,h3⟩
theorem SN.below {w w1:World} {v:Value} {L:List Cn} (h:SN w v L) (hb:Below w.heap.size w w1):SN w1 v L:=by
  rcases h with h | ⟨a,cap,h1,h2,hr⟩
  · exact Or.inl h
  · exact Or.inr ⟨a,cap,h1,h2,hr.below hb⟩
theorem GC.sn {B:Nat} {W0 w:World} {v:Value} {xs:List Cn} (h:GC B W0 v xs w):SN w v xs:=by
  rcases gc_form2 h with ⟨rfl,rfl⟩ | ⟨g,cap,rfl,hc⟩
  · exact Or.inl ⟨rfl,rfl⟩
  · obtain ⟨ao,b,o,c,hv,hao,hr⟩:=h.sc
    have hR:RowC w g 0 xs:=fun i hi=>by
      have hne:xs≠[]:=fun e=>by rw [e] at hi;simp at hi
      have:=hao hne
      subst this
      cases hv
      exact hr i hi
    exact Or.inr ⟨⟨g,0,none⟩,cap,rfl,hc,hR.cells⟩
end Go.Proofs.YtbgdlbndammgnaaGreatDoor
/- THE LEAVES: sums, differences, order, of numbers of 128 bits: the code's and the document's. Own work of the verifier. -/
set_option maxHeartbeats 400000
namespace Go.Proofs.YtbgdlbndammgnaaGreatDoor
open Go.RowKit
def bor (x y:Int):Int:=if x < y then 1 else 0
theorem bor_0 (x y:Int):0≤bor x y:=by unfold bor;split <;> decide
theorem bor_1 (x y:Int):bor x y≤1:=by unfold bor;split <;> decide
theorem add64_0 (x y:Int) (hx:0≤x) (hy:0≤y) (w:World):(callFunc 112 #[.int .u64 x,.int .u64 y,.int .u64 0]).run Tryz.prog w =
    .ok (.value (.tuple #[.int .u64 ((x+y) % 18446744073709551616),.int .u64 ((x+y) / 18446744073709551616)])) w:=by
  rw [run_callFunc_extern Tryz.func112 (by kernel_rfl) (by kernel_rfl) (by kernel_rfl) (e:=add64Entry) (by kernel_rfl),run_add64 x y 0 (by omega) (by omega) (by omega) (by omega)]
  simp [Result.andThen]
theorem sub64_0 (x y:Int) (hx:0≤x) (hy:0≤y) (hy':y < 18446744073709551616) (w:World):(callFunc 314 #[.int .u64 x,.int .u64 y,.int .u64 0]).run Tryz.prog w =
    .ok (.value (.tuple #[.int .u64 ((x - y) % 18446744073709551616),.int .u64 (bor x y)])) w:=by
  obtain ⟨x,rfl⟩:=Int.eq_ofNat_of_zero_le hx
  obtain ⟨y,rfl⟩:=Int.eq_ofNat_of_zero_le hy
  have e1:(((x+18446744073709551616 - y - 0) % 18446744073709551616:Nat):Int)=((x:Int) - y) % 18446744073709551616:=by omega
  have e2:((if x < y+0 then 1 else 0:Nat):Int)=bor (x:Int) y:=by unfold bor;split <;> split <;> omega
  have h:=run_callFunc_extern Tryz.func314 (by kernel_rfl) (by kernel_rfl) (by kernel_rfl) (e:=sub64Entry) (by kernel_rfl) #[.int .u64 (x:Int),.int .u64 (y:Int),.int .u64 0] w
  rw [h,← e1,← e2,show (0:Int)=((0:Nat):Int) from rfl,run_sub64 x y 0 (by omega)]
  rfl
theorem add_words {ah al bh bl:Int} (h1:Wf ah al) (h2:Wf bh bl):wrap64 (wrap64 (ah+bh)+(al+bl) / 18446744073709551616)=hiOf (rnd (val ah al+val bh bl))∧(al+bl) % 18446744073709551616=loOf (rnd (val ah al+val bh bl)):=by
  obtain ⟨_,_,_,_⟩:=h1;obtain ⟨_,_,_,_⟩:=h2
  unfold wrap64 hiOf loOf rnd val;constructor <;> omega
theorem sub_words {ah al bh bl:Int} (h1:Wf ah al) (h2:Wf bh bl):wrap64 (wrap64 (ah - bh) - bor al bl)=hiOf (rnd (val ah al - val bh bl))∧(al - bl) % 18446744073709551616=loOf (rnd (val ah al - val bh bl)):=by
  obtain ⟨_,_,_,_⟩:=h1;obtain ⟨_,_,_,_⟩:=h2
  unfold wrap64 hiOf loOf rnd val bor;constructor
  · split <;> omega
  · omega
abbrev num (n:Int):Value:=.agg #[.int .i64 (hiOf n),.int .u64 (loOf n)]
theorem num_of {n h l:Int} (e:h=hiOf n∧l=loOf n):num n=.agg #[.int .i64 h,.int .u64 l]:=by rw [e.1,e.2]
theorem bel3 (w:World) (o1 o2 o3:Obj):Below w.heap.size w (((w.alloc o1).alloc o2).alloc o3) :=
  (((Below.refl _ _).alloc (Nat.le_refl _) _).alloc (by simp) _).alloc (by simp;omega) _
theorem bel2 (w:World) (o1 o2:Obj):Below w.heap.size w ((w.alloc o1).alloc o2) :=
  ((Below.refl _ _).alloc (Nat.le_refl _) _).alloc (by simp) _
theorem bel1 (w:World) (o1:Obj):Below w.heap.size w (w.alloc o1):=(Below.refl _ _).alloc (Nat.le_refl _) _
theorem add_any (ah al bh bl:Int) (h1:Wf ah al) (h2:Wf bh bl) (w:World) :
    Calls Tryz.prog 84 #[.agg #[.int .i64 ah,.int .u64 al],.agg #[.int .i64 bh,.int .u64 bl]] w fun e w' =>
      e=.returned (num (rnd (val ah al+val bh bl)))∧Below w.heap.size w w':=by
  rw [num_of (add_words h1 h2)]
  obtain ⟨a1,a2,a3,a4⟩:=h1;obtain ⟨b1,b2,b3,b4⟩:=h2
  go_enter Tryz.func84,Tryz.ntmps84
  go_wp2_with (simp only [add64_0 al bl a3 b3])
  simp [bodyPost,results,Tryz.results84,go_sem]
  exact bel3 _ _ _ _
theorem sub_any (ah al bh bl:Int) (h1:Wf ah al) (h2:Wf bh bl) (w:World) :
    Calls Tryz.prog 306 #[.agg #[.int .i64 ah,.int .u64 al],.agg #[.int .i64 bh,.int .u64 bl]] w fun e w' =>
      e=.returned (num (rnd (val ah al - val bh bl)))∧Below w.heap.size w w':=by
  rw [num_of (sub_words h1 h2)]
  obtain ⟨a1,a2,a3,a4⟩:=h1;obtain ⟨b1,b2,b3,b4⟩:=h2
  have k0:=bor_0 al bl
  have k1:=bor_1 al bl
  go_enter Tryz.func306,Tryz.ntmps306
  go_wp2_with (simp only [sub64_0 al bl a3 b3 b4])
  simp [bodyPost,results,Tryz.results306,go_sem]
  exact bel3 _ _ _ _
end Go.Proofs.YtbgdlbndammgnaaGreatDoor
/- Own work of the verifier. -/
set_option maxHeartbeats 400000
namespace Go.Proofs.YtbgdlbndammgnaaGreatDoor
open Go.RowKit
theorem cmp_lt {ah al bh bl:Int} (h1:Wf ah al) (h2:Wf bh bl) (h:ah < bh):cmp (val ah al) (val bh bl)=-1:=by
  unfold cmp;rw [if_pos ((val_lt h1 h2).2 (Or.inl h))]
theorem cmp_lt' {h al bl:Int} (h1:Wf h al) (h2:Wf h bl) (hl:al < bl):cmp (val h al) (val h bl)=-1:=by
  unfold cmp;rw [if_pos ((val_lt h1 h2).2 (Or.inr ⟨rfl,hl⟩))]
theorem cmp_eq {h l:Int}:cmp (val h l) (val h l)=0:=by unfold cmp;simp
theorem cmp_gt {ah al bh bl:Int} (h1:Wf ah al) (h2:Wf bh bl) (h:¬ (ah < bh∨ah=bh∧al < bl)) (hn:¬ (ah=bh∧al=bl)):cmp (val ah al) (val bh bl)=1:=by
  unfold cmp;rw [if_neg (fun e=>h ((val_lt h1 h2).1 e)),if_neg (fun e=>hn ((val_inj h1 h2).1 e))]
theorem cmp_any (ah al bh bl:Int) (h1:Wf ah al) (h2:Wf bh bl) (w:World) :
    Calls Tryz.prog 78 #[.agg #[.int .i64 ah,.int .u64 al],.agg #[.int .i64 bh,.int .u64 bl]] w fun e w' =>
      e=.returned (.int .i64 (cmp (val ah al) (val bh bl)))∧Below w.heap.size w w':=by
  by_cases c1:ah=bh
  · subst c1
    by_cases c2:al=bl
    · subst c2
      rw [cmp_eq]
      clear h1 h2
      go_enter Tryz.func78,Tryz.ntmps78
      go_wp2
      go_ret
      exact ⟨rfl,bel2 _ _ _⟩
    · have c3:(al == bl)=false:=beq_eq_false_iff_ne.2 c2
      by_cases c4:al < bl
      · rw [cmp_lt' h1 h2 c4]
        clear h1 h2
        go_enter Tryz.func78,Tryz.ntmps78
        go_wp2
        go_ret
        exact ⟨rfl,bel2 _ _ _⟩
      · rw [cmp_gt h1 h2 (by omega) (by omega)]
        clear h1 h2
        go_enter Tryz.func78,Tryz.ntmps78
        go_wp2
        go_ret
        exact ⟨rfl,bel2 _ _ _⟩
  · have c2:(ah == bh)=false:=beq_eq_false_iff_ne.2 c1
    by_cases c3:ah < bh
    · rw [cmp_lt h1 h2 c3]
      clear h1 h2
      go_enter Tryz.func78,Tryz.ntmps78
      go_wp2
      go_ret
      exact ⟨rfl,bel2 _ _ _⟩
    · rw [cmp_gt h1 h2 (by omega) (by omega)]
      clear h1 h2
      go_enter Tryz.func78,Tryz.ntmps78
      go_wp2
      go_ret
      exact ⟨rfl,bel2 _ _ _⟩
end Go.Proofs.YtbgdlbndammgnaaGreatDoor
/- THE ORDER of floats of 64 bits, by their words (no Go in sight). Own work of the verifier. -/
namespace Go.Proofs.YtbgdlbndammgnaaGreatDoor
def uV (a:Nat):Nat:=if a < 4503599627370496 then a else (4503599627370496+a % 4503599627370496)*2 ^ (a / 4503599627370496 - 1)
theorem uV_succ (a:Nat):uV a < uV (a+1):=by
  unfold uV
  by_cases h1:a+1 < 4503599627370496
  · rw [if_pos (by omega),if_pos h1];omega
  · by_cases h2:a < 4503599627370496
    · obtain rfl:a=4503599627370495:=by omega
      decide
    · rw [if_neg h2,if_neg h1]
      have hp:0 < 2 ^ (a / 4503599627370496 - 1):=Nat.pow_pos (by decide)
      by_cases h3:(a+1) % 4503599627370496=0
      · have e1:(a+1) / 4503599627370496 - 1=(a / 4503599627370496 - 1)+1:=by omega
        rw [h3,e1,Nat.pow_succ]
        have e2:a % 4503599627370496=4503599627370495:=by omega
        rw [e2]
        generalize 2 ^ (a / 4503599627370496 - 1)=p at *
        omega
      · have e1:(a+1) / 4503599627370496=a / 4503599627370496:=by omega
        have e2:(a+1) % 4503599627370496=a % 4503599627370496+1:=by omega
        rw [e1,e2]
        exact Nat.mul_lt_mul_of_pos_right (by omega) hp
theorem uV_mono {a b:Nat} (h:a < b):uV a < uV b:=by
  induction b with
  | zero=>omega
  | succ b ih =>
    rcases Nat.lt_or_eq_of_le (Nat.le_of_lt_succ h) with k | k
    · exact Nat.lt_trans (ih k) (uV_succ b)
    · rw [k];exact uV_succ b
def magOf (a:Nat):Nat:=if a < 4503599627370496 then a else 4503599627370496+a % 4503599627370496
def upOf (a:Nat):Nat:=if a < 4503599627370496 then 0 else a / 4503599627370496 - 1
theorem uV_eq (a:Nat):magOf a*2 ^ upOf a=uV a:=by
  unfold magOf upOf uV;split <;> simp
theorem fmt:Ieee.double.signWeight=9223372036854775808∧Ieee.double.binade=4503599627370496∧Ieee.double.infRung=9218868437227405312∧Ieee.double.leastPlace=-1074:=by decide
theorem read_pos (a:Nat) (h:a < 9218868437227405312):Ieee.double.read a=.number false (magOf a) (-1074+(upOf a:Int)):=by
  obtain ⟨f1,f2,f3,f4⟩:=fmt
  have e1:(a / 9223372036854775808 % 2 == 1)=false:=by rw [beq_eq_false_iff_ne];omega
  have e2:a % 9223372036854775808=a:=by omega
  unfold Ieee.Format.read magOf upOf
  simp only [f1,f2,f3,f4,e1,e2]
  by_cases hl:a < 4503599627370496
  · rw [if_pos hl,if_pos hl,if_pos hl];rfl
  · rw [if_neg hl,if_neg hl,if_neg hl,if_pos h]
theorem cmp_nat (x y:Nat):compare ((x:Nat):Int) ((y:Nat):Int)=compare x y:=by
  rcases Nat.lt_trichotomy x y with h | h | h
  · rw [Nat.compare_eq_lt.2 h];exact Int.compare_eq_lt.2 (by omega)
  · subst h;simp
  · rw [Nat.compare_eq_gt.2 h];exact Int.compare_eq_gt.2 (by omega)
theorem cmp_mul (x y p:Nat) (hp:0 < p):compare (x*p) (y*p)=compare x y:=by
  rcases Nat.lt_trichotomy x y with h | h | h
  · rw [Nat.compare_eq_lt.2 h,Nat.compare_eq_lt.2 (Nat.mul_lt_mul_of_pos_right h hp)]
  · subst h;simp
  · rw [Nat.compare_eq_gt.2 h,Nat.compare_eq_gt.2 (Nat.mul_lt_mul_of_pos_right h hp)]
theorem cmp_uV (a b:Nat):compare (uV a) (uV b)=compare a b:=by
  rcases Nat.lt_trichotomy a b with h | h | h
  · rw [Nat.compare_eq_lt.2 h,Nat.compare_eq_lt.2 (uV_mono h)]
  · subst h;simp
  · rw [Nat.compare_eq_gt.2 h,Nat.compare_eq_gt.2 (uV_mono h)]
theorem order_pos (a b:Nat) (ha:a < 9218868437227405312) (hb:b < 9218868437227405312):Ieee.double.order a b=some (compare a b):=by
  unfold Ieee.Format.order
  rw [read_pos a ha,read_pos b hb]
  simp only [Ieee.Datum.order,Ieee.signed]
  congr 1
  rw [if_neg (by decide),if_neg (by decide),cmp_nat]
  have s1:∀ (m k:Nat),m <<< k=m*2 ^ k:=fun m k=>Nat.shiftLeft_eq m k
  rw [s1,s1,← cmp_uV a b,← uV_eq a,← uV_eq b]
  have hx:∃ c:Nat,upOf a=(-1074+(upOf a:Int) - min (-1074+(upOf a:Int)) (-1074+(upOf b:Int))).toNat+c∧upOf b=(-1074+(upOf b:Int) - min (-1074+(upOf a:Int)) (-1074+(upOf b:Int))).toNat+c:=by
    refine ⟨min (upOf a) (upOf b),?_,?_⟩ <;> omega
  obtain ⟨c,h1,h2⟩:=hx
  generalize (-1074+(upOf a:Int) - min (-1074+(upOf a:Int)) (-1074+(upOf b:Int))).toNat=x at *
  generalize (-1074+(upOf b:Int) - min (-1074+(upOf a:Int)) (-1074+(upOf b:Int))).toNat=y at *
  rw [h1,h2,Nat.pow_add,Nat.pow_add,← Nat.mul_assoc,← Nat.mul_assoc,cmp_mul _ _ _ (Nat.pow_pos (by decide))]
def sw (s:Bool) (a:Nat):Nat:=if s then 9223372036854775808+a else a
def sv (s:Bool) (a:Nat):Int:=if s then -(uV a:Int) else (uV a:Int)
theorem read_sw (s:Bool) (a:Nat) (h:a < 9218868437227405312):Ieee.double.read (sw s a)=.number s (magOf a) (-1074+(upOf a:Int)):=by
  cases s with
  | false=>exact read_pos a h
  | true =>
    obtain ⟨f1,f2,f3,f4⟩:=fmt
    show Ieee.double.read (9223372036854775808+a)=_
    have e1:((9223372036854775808+a) / 9223372036854775808 % 2 == 1)=true:=by rw [beq_iff_eq];omega
    have e2:(9223372036854775808+a) % 9223372036854775808=a:=by omega
    unfold Ieee.Format.read magOf upOf
    simp only [f1,f2,f3,f4,e1,e2]
    by_cases hl:a < 4503599627370496
    · rw [if_pos hl,if_pos hl,if_pos hl];rfl
    · rw [if_neg hl,if_neg hl,if_neg hl,if_pos h]
theorem cmpI_mul (x y:Int) (p:Nat) (hp:0 < p):compare (x*(p:Int)) (y*(p:Int))=compare x y:=by
  have hp':(0:Int) < p:=by omega
  rcases Int.lt_trichotomy x y with h | h | h
  · rw [Int.compare_eq_lt.2 h,Int.compare_eq_lt.2 (Int.mul_lt_mul_of_pos_right h hp')]
  · subst h;simp
  · rw [Int.compare_eq_gt.2 h,Int.compare_eq_gt.2 (Int.mul_lt_mul_of_pos_right h hp')]
theorem sv_signed (s:Bool) (a x c:Nat) (h:upOf a=x+c):sv s a=Ieee.signed s (magOf a) x*((2 ^ c:Nat):Int):=by
  unfold sv Ieee.signed
  rw [← uV_eq a,h,Nat.pow_add,← Nat.mul_assoc,Nat.shiftLeft_eq]
  cases s with
  | false=>simp only [Bool.false_eq_true,if_false];rw [Int.natCast_mul (magOf a*2 ^ x)]
  | true=>simp only [if_true];rw [Int.natCast_mul (magOf a*2 ^ x),Int.neg_mul]
theorem order_sw (s t:Bool) (a b:Nat) (ha:a < 9218868437227405312) (hb:b < 9218868437227405312):Ieee.double.order (sw s a) (sw t b)=some (compare (sv s a) (sv t b)):=by
  unfold Ieee.Format.order
  rw [read_sw s a ha,read_sw t b hb]
  simp only [Ieee.Datum.order]
  congr 1
  have hx:∃ c:Nat,upOf a=(-1074+(upOf a:Int) - min (-1074+(upOf a:Int)) (-1074+(upOf b:Int))).toNat+c∧upOf b=(-1074+(upOf b:Int) - min (-1074+(upOf a:Int)) (-1074+(upOf b:Int))).toNat+c:=by
    refine ⟨min (upOf a) (upOf b),?_,?_⟩ <;> omega
  obtain ⟨c,h1,h2⟩:=hx
  rw [sv_signed s a _ c h1,sv_signed t b _ c h2,cmpI_mul _ _ _ (Nat.pow_pos (by decide))]
def sr (s:Bool) (a:Nat):Int:=if s then -(a:Int) else (a:Int)
theorem cmp_congr {x y x' y':Int} (h1:x < y ↔ x' < y') (h2:y < x ↔ y' < x'):compare x y=compare x' y':=by
  rcases Int.lt_trichotomy x y with h | h | h
  · rw [Int.compare_eq_lt.2 h,Int.compare_eq_lt.2 (h1.1 h)]
  · have e:x'=y':=by
      rcases Int.lt_trichotomy x' y' with k | k | k
      · have:=h1.2 k;omega
      · exact k
      · have:=h2.2 k;omega
    rw [h,e];simp
  · rw [Int.compare_eq_gt.2 h,Int.compare_eq_gt.2 (h2.1 h)]
theorem uV_zero:uV 0=0:=by decide
theorem uV_lt_iff (a b:Nat):uV a < uV b ↔ a < b:=by
  constructor
  · intro h
    rcases Nat.lt_trichotomy a b with k | k | k
    · exact k
    · subst k;omega
    · have:=uV_mono k;omega
  · exact uV_mono
theorem cmp_sv (s t:Bool) (a b:Nat):compare (sv s a) (sv t b)=compare (sr s a) (sr t b):=by
  have h1:=uV_lt_iff a b
  have h2:=uV_lt_iff b a
  have h3:=uV_lt_iff 0 a
  have h4:=uV_lt_iff 0 b
  rw [uV_zero] at h3 h4
  apply cmp_congr
  · cases s <;> cases t <;> simp only [sv,sr,Bool.false_eq_true,if_false,if_true] <;> omega
  · cases s <;> cases t <;> simp only [sv,sr,Bool.false_eq_true,if_false,if_true] <;> omega
theorem read_inf (s:Bool):Ieee.double.read (sw s 9218868437227405312)=.infinity s:=by cases s <;> decide
theorem order_all (s t:Bool) (a b:Nat) (ha:a≤9218868437227405312) (hb:b≤9218868437227405312):Ieee.double.order (sw s a) (sw t b)=some (compare (sr s a) (sr t b)):=by
  rcases Nat.lt_or_eq_of_le ha with ha | ha
  · rcases Nat.lt_or_eq_of_le hb with hb | hb
    · rw [order_sw s t a b ha hb,cmp_sv]
    · subst hb
      unfold Ieee.Format.order
      rw [read_sw s a ha,read_inf t]
      simp only [Ieee.Datum.order]
      cases t
      · rw [if_neg (by decide)];congr 1;symm;rw [Int.compare_eq_lt];unfold sr;cases s <;> simp <;> omega
      · rw [if_pos rfl];congr 1;symm;rw [Int.compare_eq_gt];unfold sr;cases s <;> simp <;> omega
  · subst ha
    rcases Nat.lt_or_eq_of_le hb with hb | hb
    · unfold Ieee.Format.order
      rw [read_sw t b hb,read_inf s]
      simp only [Ieee.Datum.order]
      cases s
      · rw [if_neg (by decide)];congr 1;symm;rw [Int.compare_eq_gt];unfold sr;cases t <;> simp <;> omega
      · rw [if_pos rfl];congr 1;symm;rw [Int.compare_eq_lt];unfold sr;cases t <;> simp <;> omega
    · subst hb
      unfold Ieee.Format.order
      rw [read_inf s,read_inf t]
      cases s <;> cases t <;> decide
theorem read_nan (s:Bool) (a:Nat) (h:9218868437227405312 < a) (h2:a < 9223372036854775808):∃ f,Ieee.double.read (sw s a)=.nan s f:=by
  obtain ⟨f1,f2,f3,f4⟩:=fmt
  have e1:((sw s a) / 9223372036854775808 % 2 == 1)=s:=by
    unfold sw;cases s
    · rw [if_neg (by decide),beq_eq_false_iff_ne];omega
    · rw [if_pos rfl,beq_iff_eq];omega
  have e2:sw s a % 9223372036854775808=a:=by unfold sw;cases s <;> simp <;> omega
  unfold Ieee.Format.read
  simp only [f1,f2,f3,f4,e1,e2]
  rw [if_neg (by omega),if_neg (by omega),if_neg (by omega)]
  exact ⟨_,rfl⟩
theorem order_nan1 (s:Bool) (a y:Nat) (h:9218868437227405312 < a) (h2:a < 9223372036854775808):Ieee.double.order (sw s a) y=none:=by
  obtain ⟨f,e⟩:=read_nan s a h h2
  unfold Ieee.Format.order
  rw [e];rfl
theorem order_nan2 (s:Bool) (a x:Nat) (h:9218868437227405312 < a) (h2:a < 9223372036854775808):Ieee.double.order x (sw s a)=none:=by
  obtain ⟨f,e⟩:=read_nan s a h h2
  unfold Ieee.Format.order
  rw [e]
  cases Ieee.double.read x <;> rfl
theorem sw_of (x:Nat) (h:x < 18446744073709551616):∃ s a,x=sw s a∧a < 9223372036854775808:=by
  by_cases k:x < 9223372036854775808
  · exact ⟨false,x,rfl,k⟩
  · exact ⟨true,x - 9223372036854775808,by unfold sw;rw [if_pos rfl];omega,by omega⟩
end Go.Proofs.YtbgdlbndammgnaaGreatDoor
/- A RANGE OVER AN ITERATOR THAT HAS CELLS OF ITS OWN: the law. Own work of the verifier. -/
set_option maxHeartbeats 1000000
namespace Go.Proofs.YtbgdlbndammgnaaGreatDoor
open Go.RowKit Go.Shelf
structure Mid (n0 B:Nat) (W W':World):Prop where
  os:W'.os=W.os
  tape:W'.tape=W.tape
  output:W'.output=W.output
  size:W.heap.size≤W'.heap.size
  block:∀ k,k < W.heap.size→¬ (n0≤k∧k < B)→W'.heap[k]? =W.heap[k]?
theorem Mid.refl (n0 B:Nat) (W:World):Mid n0 B W W:=⟨rfl,rfl,rfl,Nat.le_refl _,fun _ _ _=>rfl⟩
theorem Mid.trans {n0 B:Nat} {a b c:World} (h:Mid n0 B a b) (k:Mid n0 B b c):Mid n0 B a c :=
  ⟨k.os.trans h.os,k.tape.trans h.tape,k.output.trans h.output,Nat.le_trans h.size k.size,fun i hi hn=>(k.block i (Nat.lt_of_lt_of_le hi h.size) hn).trans (h.block i hi hn)⟩
theorem Mid.of_below {n0 B:Nat} {a b:World} (h:Below a.heap.size a b):Mid n0 B a b:=⟨h.os,h.tape,h.output,h.size,fun k hk _=>h.block k hk⟩
theorem Mid.below {n0 B:Nat} {a w w':World} (h:Mid n0 B a w) (k:Below w.heap.size w w'):Mid n0 B a w':=h.trans (Mid.of_below k)
theorem Mid.drew {n0 B:Nat} {a w:World} (h:Mid n0 B a w):Mid n0 B a w.drew:=h.below (Below.refl _ _).drew
theorem Mid.setCell {n0 B:Nat} {a w:World} (h:Mid n0 B a w) {p:Addr} (hp:(n0≤p.block∧p.block < B)∨a.heap.size≤p.block) (u:Value):Mid n0 B a (w.setCell p u) :=
  ⟨h.os,h.tape,h.output,Nat.le_trans h.size (by simp [World.setCell]),fun k hk hn=>(Below.heap_setCell _ _ _ _ (fun e=>by subst e;rcases hp with hp | hp;exact hn hp;omega)).trans (h.block k hk hn)⟩
theorem Mid.toBelow {n0 B:Nat} {a b:World} (h:Mid n0 B a b) (ha:n0≤a.heap.size):Below n0 a b:=⟨h.os,h.tape,h.output,h.size,fun k hk=>h.block k (by omega) (by omega)⟩
def midPost (n0 B:Nat) (I:Nat→World→Prop) (Ix:Code→Nat→World→Prop) (i:Nat) (W:World):Exit→Act→World→Prop
  | .normal,_,W'=>Mid n0 B W W'∧I i W'
  | .ret,_,W'=>Mid n0 B W W'∧Ix .ret i W'
  | .exit id,_,W'=>Mid n0 B W W'∧Ix (.exit id) i W'
  | .goto t,_,W'=>Mid n0 B W W'∧Ix (.goto t) i W'
  | .panic _,_,_=>False
  | .outgrown,_,_=>False
def Seq (P:Program) (m:Nat) (gf:Nat) (lb:Array Value) (n0 B N:Nat) (encs:Nat→Array Value) (w:World):Prop :=
  ∀ (l:Nat) (J Jx:Nat→World→Prop) (W:World),Below w.heap.size w W→w.heap.size≤W.heap.size →
    (∀ i A A',J i A→Below W.heap.size A A'→J i A')→(∀ i A A',Jx i A→Below W.heap.size A A'→Jx i A') →
    (∀ i W1,i < N→J i W1→YieldAt Fence.wide (m - 1) P l (encs i) W1 fun e W'=>(e=.returned (.bool true)∧Mid n0 B W1 W'∧J (i+1) W')∨(e=.returned (.bool false)∧Jx (i+1) W')) →
    J 0 W →
    CallsIn Fence.wide m P gf (#[.func (.yield l) #[] #[]]++lb) W fun e W'=>(∃ v,e=.returned v)∧(J N W'∨∃ i,i≤N∧Jx i W')
theorem wpIn_rangeFunc_seq {P:Program} {n:Nat} {g:Operand} {ps:Array Tmp} {assign body:Code} {Q:Exit→Act→World→Prop} {a:Act} {w:World}
    {gf:Nat} {lb:Array Value} (hg:a.eval g=.func (.func gf) #[] lb) (eg:∀ args w,(callFunc gf args).run P w=.ok (.enter gf args) w)
    {n0 B N:Nat} {encs:Nat→Array Value} (hB:B≤w.heap.size) (hseq:Seq P (n - 1) gf lb n0 B N encs w) (hps:∀ i,(encs i).size=ps.size)
    (I:Nat→World→Prop) (Ix:Code→Nat→World→Prop) (hI:∀ i A A',I i A→Below w.heap.size A A'→I i A') (hIx:∀ c i A A',Ix c i A→Below w.heap.size A A'→Ix c i A') (h0:I 0 w)
    (hround:∀ (l i:Nat) (W:World),i < N→w.heap.size≤l→l < W.heap.size→I i W →
      assign.wpIn (Fence.wide.inRound l) (n - 1 - 1) P (Exit.then (fun a1 W1=>Below W.heap.size W W1∧∀ W2,I i W2→W2.heap.size=W1.heap.size→(∀ k,k≠l→W2.heap[k]? =W1.heap[k]?) →
        body.wpIn (Fence.wide.inRound l) (n - 1 - 1) P (midPost n0 B I Ix (i+1) W2) a1 W2) (fun _ _ _=>False)) { tmps:=(ps.zip (encs i)).foldl (fun t (p,v)=>t.setIfInBounds p v) a.tmps,defers:=[] } W)
    (hdone:∀ (D:Nat) (W:World),w.heap.size≤D→I N W→W.heap[D]? =some (.deferred (some []))→Q .normal { a with defers:={ target:=.collected D,args:=#[] }::a.defers } W)
    (hstop:∀ (D:Nat) (c:Code) (i:Nat) (W:World),w.heap.size≤D→i≤N→Ix c i W→W.heap[D]? =some (.deferred (some []))→c.wpIn Fence.wide n P Q { a with defers:={ target:=.collected D,args:=#[] }::a.defers } W) :
    (Code.rangeFunc g ps assign body).wpIn Fence.wide n P Q a w:=by
  refine wpIn_rangeFunc ?_
  intro fn hfn
  show ∃ l mark w₁ d w₁' f args w₂,(Instr.enterLoop fn a.tmps ps assign body none).run P w=.ok (l,mark) w₁∧_
  obtain ⟨rec,hrec⟩:∃ rec:LoopState→Option Code→Loop,rec=fun st pe=>{ state:=st,pending:=pe,fn,tmps:=a.tmps,params:=ps,assign,body,defers:=w.heap.size }:=⟨_,rfl⟩
  obtain ⟨W1,hW1⟩:∃ W1,(w.alloc (.deferred (some []))).alloc (.loop (rec .ready none))=W1:=⟨_,rfl⟩
  have hs1:W1.heap.size=w.heap.size+1+1:=by rw [← hW1];simp
  have hL1:W1.heap[w.heap.size+1]? =some (.loop (rec .ready none)):=by
    rw [← hW1];have:=World.alloc_heap_new (w.alloc (.deferred (some []))) (.loop (rec .ready none));rwa [World.size_alloc] at this
  have hK1:W1.heap[w.heap.size]? =some (.deferred (some [])):=by
    rw [← hW1];exact (Below.heap_alloc _ _ _ (by simp)).trans (World.alloc_heap_new w _)
  have hb1:Below w.heap.size w W1:=by
    rw [← hW1];exact ((Below.refl _ w).alloc (Nat.le_refl _) _).alloc (by simp) _
  refine ⟨w.heap.size+1,[{ target:=.collected w.heap.size,args:=#[] }],W1,{ target:=.fn (.func gf) lb,args:=#[.func (.yield (w.heap.size+1)) #[] #[]] },W1,gf,
    #[.func (.yield (w.heap.size+1)) #[] #[]]++lb,W1,?_,?_,?_,?_,?_,?_⟩
  · rw [← hW1,hrec];exact run_enterLoop_outer _ _ _ _ _
  · simp only [resolve,hg]
    simp [go_sem]
  · intro f' _;exact True.intro
  · simp [invoke,go_sem,eg]
  · intro h;simp [Fence.wide] at h
  · have hput:∀ (A:World) (o:Obj),w.heap.size+1 < A.heap.size→Below w.heap.size A (A.putObj (w.heap.size+1) o):=fun A o hlt =>
      (Below.refl _ _).grown (grownBy_putObj' A (w.heap.size+1) o) (by omega) (fun k e=>by cases e;omega)
    refine (hseq (w.heap.size+1)
      (fun i W=>I i W∧W.heap[w.heap.size+1]? =some (.loop (rec .ready none))∧W.heap[w.heap.size]? =some (.deferred (some [])))
      (fun i W=>∃ c,Ix c i W∧W.heap[w.heap.size+1]? =some (.loop (rec .done (some c)))∧W.heap[w.heap.size]? =some (.deferred (some [])))
      W1 hb1 (by omega)
      (fun i A A' hs hb=>⟨hI i A A' hs.1 (hb.mono (by omega)),(hb.block _ (by omega)).trans hs.2.1,(hb.block _ (by omega)).trans hs.2.2⟩)
      (fun i A A' hs hb=>by
        obtain ⟨c,hc,hl,hk⟩:=hs
        exact ⟨c,hIx c i A A' hc (hb.mono (by omega)),(hb.block _ (by omega)).trans hl,(hb.block _ (by omega)).trans hk⟩)
      ?_ ⟨hI 0 w W1 h0 hb1,hL1,hK1⟩).mono ?_
    · rintro i W hiN ⟨hi,hl,hk⟩
      have hlt:w.heap.size+1 < W.heap.size:=(Array.getElem?_eq_some_iff.1 hl).1
      have hy:=run_yield (P:=P) (args:=encs i) hl (by rw [hrec];exact hps i)
      rw [hrec] at hy
      refine ⟨fn,_,assign,body,hy,roundIn_of_wpIn hfn (wpIn_mono (hround (w.heap.size+1) i W hiN (by omega) hlt hi) ?_)⟩
      clear hy
      rintro e a1 Wa hp
      cases e with
      | normal =>
        obtain ⟨hba,hbody⟩:=hp
        have hla:=(hba.block _ hlt).trans hl
        have hka:=(hba.block w.heap.size (by omega)).trans hk
        have hlta:w.heap.size+1 < Wa.heap.size:=(Array.getElem?_eq_some_iff.1 hla).1
        refine ⟨_,run_beginRound hla (by rw [hrec]),?_⟩
        obtain ⟨W2,hW2⟩:∃ W2,Wa.putObj (w.heap.size+1) (.loop { rec .ready none with state:=.busy })=W2:=⟨_,rfl⟩
        rw [hW2]
        have hl2:W2.heap[w.heap.size+1]? =some (.loop { rec .ready none with state:=.busy }):=by rw [← hW2];exact World.putObj_heap_same hlta
        have hot:∀ k,k≠w.heap.size+1→W2.heap[k]? =Wa.heap[k]?:=fun k hk'=>by rw [← hW2];exact World.putObj_heap_other hk'
        have hs2:W2.heap.size=Wa.heap.size:=by rw [← hW2];simp [World.putObj]
        have hb2:Below w.heap.size Wa W2:=by rw [← hW2];exact hput _ _ hlta
        have hi2:I i W2:=hI i _ _ (hI i _ _ hi (hba.mono (by omega))) hb2
        refine wpIn_mono (hbody W2 hi2 hs2 hot) ?_
        have fin:∀ (jump:Option Code) (W3:World),Mid n0 B W2 W3 →
            (Instr.endRound (w.heap.size+1) jump).run P W3=.ok (.bool jump.isNone) (W3.putObj (w.heap.size+1) (.loop (rec (if jump.isNone then .ready else .done) jump))) ∧
            w.heap.size+1 < W3.heap.size ∧
            (W3.putObj (w.heap.size+1) (.loop (rec (if jump.isNone then .ready else .done) jump))).heap[w.heap.size+1]? =some (.loop (rec (if jump.isNone then .ready else .done) jump)) ∧
            (W3.putObj (w.heap.size+1) (.loop (rec (if jump.isNone then .ready else .done) jump))).heap[w.heap.size]? =some (.deferred (some [])):=fun jump W3 hk3=>by
          have hl3:=(hk3.block _ (by omega) (by omega)).trans hl2
          have hk3':=(hk3.block w.heap.size (by omega) (by omega)).trans ((hot _ (by omega)).trans hka)
          have:=run_endRound (P:=P) jump hl3
          rw [hrec] at this ⊢
          exact ⟨this,(Array.getElem?_eq_some_iff.1 hl3).1,World.putObj_heap_same (Array.getElem?_eq_some_iff.1 hl3).1,(World.putObj_heap_other (by omega)).trans hk3'⟩
        rintro e a3 W3 hp
        cases e with
        | normal =>
          obtain ⟨hk3,hi3⟩:=hp
          obtain ⟨hr,hlt3,hl4,hk4⟩:=fin none W3 hk3
          refine ⟨_,_,hr,.inl ⟨rfl,?_,hI _ _ _ hi3 (hput _ _ hlt3),hl4,hk4⟩⟩
          refine ⟨hk3.os.trans (hb2.os.trans hba.os),hk3.tape.trans (hb2.tape.trans hba.tape),hk3.output.trans (hb2.output.trans hba.output),?_,fun k hkW hkn=>?_⟩
          · have e1:(W3.putObj (w.heap.size+1) (.loop (rec .ready none))).heap.size=W3.heap.size:=by simp [World.putObj]
            exact Nat.le_trans (Nat.le_trans hba.size (by rw [← hs2];exact hk3.size)) (Nat.le_of_eq e1.symm)
          · by_cases ek:k=w.heap.size+1
            · subst ek;exact hl4.trans hl.symm
            · exact (World.putObj_heap_other ek).trans ((hk3.block k (by have:=hba.size;omega) hkn).trans ((hot k ek).trans (hba.block k hkW)))
        | ret =>
          obtain ⟨hk3,hi3⟩:=hp
          obtain ⟨hr,hlt3,hl4,hk4⟩:=fin (some .ret) W3 hk3
          exact ⟨_,_,hr,.inr ⟨rfl,.ret,hIx _ _ _ _ hi3 (hput _ _ hlt3),hl4,hk4⟩⟩
        | exit id =>
          obtain ⟨hk3,hi3⟩:=hp
          obtain ⟨hr,hlt3,hl4,hk4⟩:=fin (some (.exit id)) W3 hk3
          exact ⟨_,_,hr,.inr ⟨rfl,.exit id,hIx _ _ _ _ hi3 (hput _ _ hlt3),hl4,hk4⟩⟩
        | goto t =>
          obtain ⟨hk3,hi3⟩:=hp
          obtain ⟨hr,hlt3,hl4,hk4⟩:=fin (some (.goto t)) W3 hk3
          exact ⟨_,_,hr,.inr ⟨rfl,.goto t,hIx _ _ _ _ hi3 (hput _ _ hlt3),hl4,hk4⟩⟩
        | panic ch=>exact hp.elim
        | outgrown=>exact hp.elim
      | ret=>exact hp.elim
      | exit id=>exact hp.elim
      | goto t=>exact hp.elim
      | panic ch=>exact hp.elim
      | outgrown=>exact hp.elim
    · rintro e W2 ⟨⟨v,rfl⟩,(⟨hi,hl,hk⟩ | ⟨i,hiN,c,hi,hl,hk⟩)⟩
      · have hlt:w.heap.size+1 < W2.heap.size:=(Array.getElem?_eq_some_iff.1 hl).1
        exact ⟨none,_,by have:=run_endLoop (P:=P) hl (by rw [hrec];simp);rw [hrec] at this;exact this,hdone _ _ (Nat.le_refl _) (hI _ _ _ hi (hput _ _ hlt)) ((World.putObj_heap_other (by omega)).trans hk)⟩
      · have hlt:w.heap.size+1 < W2.heap.size:=(Array.getElem?_eq_some_iff.1 hl).1
        exact ⟨some c,_,by have:=run_endLoop (P:=P) hl (by rw [hrec];simp);rw [hrec] at this;exact this,hstop _ c i _ (Nat.le_refl _) hiN (hIx _ _ _ _ hi (hput _ _ hlt)) ((World.putObj_heap_other (by omega)).trans hk)⟩
end Go.Proofs.YtbgdlbndammgnaaGreatDoor
/- Own work of the verifier. -/
set_option maxHeartbeats 400000
namespace Go.Proofs.YtbgdlbndammgnaaGreatDoor
open Go.RowKit
theorem of_words {n:Int} (h1:-9223372036854775808≤n) (h2:n≤9223372036854775807):n / 9223372036854775808=hiOf n∧IntKind.u64.wrap n=loOf n:=by
  rw [IntKind.wrap_u64];unfold hiOf loOf;constructor <;> omega
theorem of_any (n:Int) (h1:-9223372036854775808≤n) (h2:n≤9223372036854775807) (w:World) :
    Calls Tryz.prog 110 #[.int .i64 n] w fun e w'=>e=.returned (num n)∧Below w.heap.size w w':=by
  rw [num_of (of_words h1 h2)]
  go_enter Tryz.func110,Tryz.ntmps110
  go_wp2
  simp [bodyPost,results,Tryz.results110,go_sem]
  exact bel1 _ _
theorem uns_any (n:Int) (h1:0≤n) (h2:n < 18446744073709551616) (w:World) :
    Calls Tryz.prog 133 #[.int .u64 n] w fun e w'=>e=.returned (num n)∧Below w.heap.size w w':=by
  rw [num_of (h:=0) (l:=n) (by unfold hiOf loOf;constructor <;> omega)]
  go_enter Tryz.func133,Tryz.ntmps133
  go_wp2
  simp [bodyPost,results,Tryz.results133,go_sem]
  exact bel1 _ _
end Go.Proofs.YtbgdlbndammgnaaGreatDoor
