/- Own work of the verifier. -/
import Derived.Test.YtfkbjdgbpenflaaGreatDoorWAB
import Derived.Lib.ItoaMem
import Derived.Laws.Strings
import Derived.Lib.ItoaNum
import Derived.Lib.Repeat
import Derived.Deep.RegionWith
set_option maxRecDepth 100000
set_option maxHeartbeats 4000000
namespace Go.Proofs.YtfkbjdgbpenflaaGreatDoor.Wi
open Go.RowKit Go.Sort
def Tab (w:World):Prop:=Lib.TabIs Tryz.prog w "internal/strconv.uint64pow10" .u64 Lib.pow10Tab
theorem Tab.below {w w':World} (h:Tab w) (hb:Below w.heap.size w w'):Tab w':=by
 unfold Tab Lib.TabIs World.var? at *
 cases hg:Tryz.prog.globalNamed "internal/strconv.uint64pow10" with
 | none=>simp [hg] at h
 | some g =>
  simp only [hg,Option.bind_some] at h ⊢
  have hlt:g < w.heap.size:=by
   rcases Nat.lt_or_ge g w.heap.size with h' | h'
   ·exact h'
   ·rw [Array.getElem?_eq_none h'] at h;simp at h
  rw [hb.block g hlt]
  exact h
theorem Tab.alloc {w:World} (h:Tab w) (o:Obj):Tab (w.alloc o):=h.below (bel1 w o)
theorem Tab.drewN {w:World} (h:Tab w) (k:Nat):Tab (w.drewN k):=h.below (Below.drewN' (Below.refl _ _) k)
theorem below_grow (w:World) (k:Nat) (os:Array Obj):Below w.heap.size w (grow (w.drewN k) os):=by
 refine (Below.drewN' (Below.refl w.heap.size w) k).trans ⟨rfl,rfl,rfl,by simp [grow],fun i hi=>?_⟩
 have e:(w.drewN k).heap=w.heap:=by
  clear hi
  induction k with
  | zero=>rfl
  | succ k ih=>exact ih
 show ((w.drewN k).heap++os)[i]? =_
 rw [e,Array.getElem?_append_left hi]
theorem holds_zero0 (w:World) (T:TypeId) (nd:Nat) (hs:nd≤24):Holds (fun (b:UInt8)=>Value.int .u8 (b.toNat:Int)) (w.alloc (.cells Lib.zeros24 T)) w.heap.size 0 (Array.replicate nd (0:UInt8)):=fun j hj=>by
 have hj':j < nd:=by simpa using hj
 refine ⟨?_,World.frozen?_alloc_new _ _ _ _⟩
 rw [World.cell?_alloc_new,Lib.zeros24_at _ (by omega),getElem!_pos _ j hj]
 simp
theorem fin0 (w:World) (o:Obj) (dk:Array UInt8) (k:Nat):∃ os,(putRow (fun (b:UInt8)=>Value.int .u8 (b.toNat:Int)) (w.alloc o) w.heap.size 0 dk).drewN k=grow (w.drewN k) os:=by
 rw [alloc_eq_grow]
 obtain ⟨os',_,e⟩:=putRow_grow_new (fun (b:UInt8)=>Value.int .u8 (b.toNat:Int)) w #[o] w.heap.size 0 dk (Nat.le_refl _)
 exact ⟨os',by rw [e];rfl⟩
theorem fmtu_any (u:Nat) (hu64:u < 18446744073709551616) (w:World) (htab:Tab w) :
  Calls Tryz.prog 81 #[.int .u64 u,.int .i64 10] w fun e w'=>e=.returned (.string ⟨(Lib.decDigits u).toArray⟩)∧Below w.heap.size w w':=by
 by_cases hs:u < 100
 ·clear htab
  go_enter Tryz.func81,Tryz.ntmps81
  go_wp2_with (go_at_call 116;refine (Tryz.internal_strconv_small u hs _).mono ?_;rintro e w' ⟨rfl,rfl⟩)
  go_ret
  exact ⟨rfl,Below.refl _ _⟩
 ·have hu1:1≤u:=by omega
  have hnd20:Lib.nDigits u≤20:=by have:=Lib.numDigits_eq u hu1 hu64;split at this <;> omega
  have hal:Tryz.prog.arrayLen 147=24:=by simp [Program.arrayLen,Tryz.underlying147]
  have hsl1:∀ W,(Instr.sliceAt 147 (.pointer (some ⟨w.heap.size,0,none⟩)) none (some (.int .i64 (Lib.nDigits u:Int))) none).run Tryz.prog W=.ok (.slice (some ⟨w.heap.size,0,none⟩) (Lib.nDigits u) 24) W:=fun W=>by
   rw [run_sliceAt_array_h W 147 ⟨w.heap.size,0,none⟩ (by simp [Program.arrayLen,Program.elem,Tryz.underlying147]) .i64 (Lib.nDigits u:Int) (by omega) (by rw [hal];omega)]
   go_simp
  have hH0:=holds_zero0 w 147 (Lib.nDigits u) (by omega)
  have hfmt:=Tryz.internal_strconv_formatBase10 w.heap.size 0 24 u (Array.replicate (Lib.nDigits u) 0) (w.alloc (.cells Lib.zeros24 147)) hH0 (by rw [Array.size_replicate];exact Lib.lt_pow_nDigits u) hu64 (by rw [Array.size_replicate];omega)
  rw [Array.size_replicate] at hfmt
  have HH0:=Lib.hid hH0
  clear hH0 hal
  go_enter Tryz.func81,Tryz.ntmps81
  go_wp2_with (first
   | (go_at_call 117;refine (Tryz.internal_strconv_numDigits u hu1 hu64 _ (htab.alloc _)).mono ?_;rintro e w' ⟨rfl,rfl⟩))
  refine hfmt.mono ?_
  rintro e w' ⟨rfl,k,v',dk,rfl,hF⟩
  have hcv:(convert 30 9 (.slice (some ⟨w.heap.size,0,none⟩) (Lib.nDigits u) 24)).run Tryz.prog ((putRow (fun (b:UInt8)=>Value.int .u8 (b.toNat:Int)) (w.alloc (.cells Lib.zeros24 147)) w.heap.size 0 dk).drewN k)=.ok (.string ⟨(Lib.decDigits u).toArray⟩) ((putRow (fun (b:UInt8)=>Value.int .u8 (b.toNat:Int)) (w.alloc (.cells Lib.zeros24 147)) w.heap.size 0 dk).drewN k):=by
   have h:=run_convert_bytes_back (P:=Tryz.prog) ((putRow (fun (b:UInt8)=>Value.int .u8 (b.toNat:Int)) (w.alloc (.cells Lib.zeros24 147)) w.heap.size 0 dk).drewN k) 30 9 5 ⟨w.heap.size,0,none⟩ 24 (Lib.decDigits u) Tryz.underlying30 Tryz.underlying5 Tryz.underlying9 (fun j hj=>by
    rw [Lib.row_is_numeral hF j hj,Lib.add_plain,World.cell?_drewN]
    exact cell?_putRow (fun (b:UInt8)=>Value.int .u8 (b.toNat:Int)) _ w.heap.size 0 _ dk HH0.out (by rw [hF.size,Array.size_replicate]) j (by rw [hF.size];rw [Lib.decDigits_length] at hj;exact hj))
   rw [Lib.decDigits_length] at h
   exact h
  go_wp2
  go_ret
  obtain ⟨os,eo⟩:=fin0 w (.cells Lib.zeros24 147) dk k
  refine ⟨rfl,?_⟩
  rw [eo]
  exact below_grow _ _ _
theorem fmt_any (u:Int) (hu0:0≤u) (hu64:u < 18446744073709551616) (w:World) (htab:Tab w) :
  Calls Tryz.prog 47 #[.int .u64 u,.int .i64 10] w fun e w'=>e=.returned (.string ⟨(Lib.decDigits u.toNat).toArray⟩)∧Below w.heap.size w w':=by
 obtain ⟨u,rfl⟩:=Int.eq_ofNat_of_zero_le hu0
 rw [Int.toNat_natCast]
 go_enter Tryz.func47,Tryz.ntmps47
 go_wp2_with fail
 refine (fmtu_any u (by omega) _ htab).mono ?_
 rintro e w1 ⟨rfl,hb⟩
 go_wp2
 go_ret
 exact ⟨rfl,hb⟩
end Go.Proofs.YtfkbjdgbpenflaaGreatDoor.Wi
namespace Go.Proofs.YtfkbjdgbpenflaaGreatDoor.Wi
theorem dec_small {u:Nat} (h:u < 10):Lib.decDigits u=[UInt8.ofNat (48+u)]:=by rw [Lib.decDigits,dif_pos h]
theorem dec_big {u:Nat} (h:¬ u < 10):Lib.decDigits u=Lib.decDigits (u / 10)++[UInt8.ofNat (48+u % 10)]:=by rw [Lib.decDigits,dif_neg h]
theorem dec_snoc {a b:Nat} (ha:0 < a) (hb:b < 10):Lib.decDigits (a*10+b)=Lib.decDigits a++[UInt8.ofNat (48+b)]:=by
 rw [dec_big (by omega),show (a*10+b) / 10=a from by omega,show (a*10+b) % 10=b from by omega]
theorem dec_join (a:Nat) (ha:0 < a):∀ (k b:Nat),1≤k→b < 10 ^ k→Lib.decDigits (a*10 ^ k+b)=Lib.decDigits a++(List.replicate (k - Lib.nDigits b) 48++Lib.decDigits b)
 | 0,_,h,_=>by omega
 | 1,b,_,hb=>by
  have hb':b < 10:=by simpa using hb
  rw [show (10:Nat) ^ 1=10 from rfl,dec_snoc ha hb',Lib.nDigits_small hb',dec_small hb']
  simp
 | k+2,b,_,hb=>by
  have hp:(10:Nat) ^ (k+2)=10 ^ (k+1)*10:=Nat.pow_succ ..
  have hpos:0 < 10 ^ (k+1):=Nat.pow_pos (by decide)
  rw [hp] at hb
  have hN:a*10 ^ (k+2)+b=(a*10 ^ (k+1)+b / 10)*10+b % 10:=by
   rw [hp,← Nat.mul_assoc]
   omega
  have h1:0 < a*10 ^ (k+1):=Nat.mul_pos ha hpos
  rw [hN,dec_snoc (by omega) (Nat.mod_lt _ (by decide)),dec_join a ha (k+1) (b / 10) (by omega) (by omega)]
  by_cases hb10:b < 10
  ·rw [show b / 10=0 from by omega,show b % 10=b from by omega,Lib.nDigits_small (u:=0) (by decide),Lib.nDigits_small hb10,dec_small (u:=0) (by decide),dec_small hb10,show k+2 - 1=(k+1 - 1)+1 from by omega,List.replicate_succ']
   simp
  ·rw [Lib.nDigits_big hb10,dec_big hb10,show k+2 - (Lib.nDigits (b / 10)+1)=k+1 - Lib.nDigits (b / 10) from by omega]
   simp
theorem nDigits_le_pow:∀ (k u:Nat),u < 10 ^ (k+1)→Lib.nDigits u≤k+1
 | 0,u,h=>by rw [Lib.nDigits_small (by simpa using h)];omega
 | k+1,u,h=>by
  by_cases hu:u < 10
  ·rw [Lib.nDigits_small hu];omega
  ·rw [Lib.nDigits_big hu]
   have:=nDigits_le_pow k (u / 10) (by rw [Nat.pow_succ] at h;omega)
   omega
theorem repeat_48 (k:Nat):Lib.repeatL [48] k=List.replicate k 48:=by
 induction k with
 | zero=>rfl
 | succ k ih=>simp [Lib.repeatL,ih,List.replicate_succ]
theorem dec_piece (N:Nat) (h:¬ N / 10000000000000000000=0) :
  Lib.decDigits (N / 10000000000000000000)++(Lib.repeatL [48] (19 - Lib.nDigits (N % 10000000000000000000))++Lib.decDigits (N % 10000000000000000000))=Lib.decDigits N:=by
 have e:=dec_join (N / 10000000000000000000) (by omega) 19 (N % 10000000000000000000) (by omega) (by simp only [show (10:Nat) ^ 19=10000000000000000000 from by decide];omega)
 rw [repeat_48,← e,show (10:Nat) ^ 19=10000000000000000000 from by decide]
 congr 1
 omega
end Go.Proofs.YtfkbjdgbpenflaaGreatDoor.Wi
namespace Go.Proofs.YtfkbjdgbpenflaaGreatDoor.Wi
open Go.RowKit Go.Sort
theorem mul64_any (x y:Int) (hx0:0≤x) (hx:x < 18446744073709551616) (hy0:0≤y) (hy:y < 18446744073709551616) (w:World) :
  Calls Tryz.prog 142 #[.int .u64 x,.int .u64 y] w fun e w'=>e=.returned (.tuple #[.int .u64 (hiOf (x*y)),.int .u64 (loOf (x*y))])∧w'=w:=by
 obtain ⟨x,rfl⟩:=Int.eq_ofNat_of_zero_le hx0
 obtain ⟨y,rfl⟩:=Int.eq_ofNat_of_zero_le hy0
 refine (Tryz.bits_Mul64 x y (by omega) (by omega) w).mono ?_
 rintro e w' ⟨rfl,rfl⟩
 refine ⟨?_,rfl⟩
 unfold hiOf loOf
 rw [← Int.natCast_mul]
 simp only [Int.natCast_ediv,Int.natCast_emod]
 rfl
theorem mul_any (x y:Int) (hx0:0≤x) (hx:x < 18446744073709551616) (hy0:0≤y) (hy:y < 18446744073709551616) (w:World) :
  Calls Tryz.prog 109 #[.int .u64 x,.int .u64 y] w fun e w'=>e=.returned (.tuple #[.int .u64 (hiOf (x*y)),.int .u64 (loOf (x*y))])∧w'=w:=by
 go_enter Tryz.func109,Tryz.ntmps109
 go_wp2_with fail
 refine (mul64_any x y hx0 hx hy0 hy _).mono ?_
 rintro e w1 ⟨rfl,rfl⟩
 go_wp2
 go_ret2
 exact ⟨rfl,rfl⟩
theorem rnd_words {h l:Int} (l0:0≤l) (l1:l < 18446744073709551616):hiOf (rnd (h*18446744073709551616+l))=wrap64 h∧loOf (rnd (h*18446744073709551616+l))=l:=by
 unfold wrap64 hiOf loOf rnd;constructor <;> omega
theorem wrap64_add (a b:Int):wrap64 (wrap64 a+b)=wrap64 (a+b):=by unfold wrap64;omega
theorem ten_words {ah al:Int} (_h1:Wf ah al):wrap64 (wrap64 (ah*10)+hiOf (al*10))=hiOf (rnd (val ah al*10))∧loOf (al*10)=loOf (rnd (val ah al*10)):=by
 have e:val ah al*10=(ah*10+hiOf (al*10))*18446744073709551616+loOf (al*10):=by unfold val hiOf loOf;omega
 obtain ⟨e1,e2⟩:=rnd_words (h:=ah*10+hiOf (al*10)) (l:=loOf (al*10)) (by unfold loOf;omega) (by unfold loOf;omega)
 rw [wrap64_add,e,e1,e2]
 exact ⟨rfl,rfl⟩
theorem ten_any (ah al:Int) (h1:Wf ah al) (w:World) :
  Calls Tryz.prog 159 #[.agg #[.int .i64 ah,.int .u64 al]] w fun e w' =>
   e=.returned (num (rnd (val ah al*10)))∧Below w.heap.size w w':=by
 rw [num_of (ten_words h1)]
 have k0:0≤hiOf (al*10):=by obtain ⟨_,_,_,_⟩:=h1;unfold hiOf;omega
 have k1:hiOf (al*10)≤9:=by obtain ⟨_,_,_,_⟩:=h1;unfold hiOf;omega
 obtain ⟨a1,a2,a3,a4⟩:=h1
 go_enter Tryz.func159,Tryz.ntmps159
 go_wp2_with fail
 refine (mul_any al 10 a3 a4 (by decide) (by decide) _).mono ?_
 rintro e w1 ⟨rfl,rfl⟩
 go_wp2
 simp [bodyPost,results,Tryz.results159,go_sem]
 exact bel2 _ _ _
theorem rep_any (c:Int) (h0:0≤c) (h1:c≤19) (w:World) :
  Calls Tryz.prog 153 #[.string ⟨#[48]⟩,.int .i64 c] w fun e w'=>e=.returned (.string ⟨(Lib.repeatL [48] c.toNat).toArray⟩)∧Below w.heap.size w w':=by
 obtain ⟨c,rfl⟩:=Int.eq_ofNat_of_zero_le h0
 rw [Int.toNat_natCast]
 have h:=Tryz.strings_Repeat ⟨#[48]⟩ c w (by omega) (by show 1*c≤_;omega)
 exact h
theorem digits_any (hi lo:Int) (h0:0≤hi) (h1:hi≤9223372036854775808) (h2:0≤lo) (h3:lo < 18446744073709551616) (w:World) (htab:Tab w) :
  Calls Tryz.prog 122 #[.int .u64 hi,.int .u64 lo] w fun e w'=>e=.returned (.string ⟨(Lib.decDigits (val hi lo).toNat).toArray⟩)∧Below w.heap.size w w':=by
 have hd:=div64_any hi lo 10000000000000000000 h0 h2 h3 (by omega) (by decide)
 obtain ⟨N,hN⟩:∃ N:Nat,(N:Int)=hi*18446744073709551616+lo:=⟨(hi*18446744073709551616+lo).toNat,by omega⟩
 rw [← hN] at hd
 have q0:0≤(N:Int) / 10000000000000000000:=by omega
 have q1:(N:Int) / 10000000000000000000 < 18446744073709551616:=by omega
 have r0:0≤(N:Int) % 10000000000000000000:=by omega
 have r1:(N:Int) % 10000000000000000000 < 10000000000000000000:=by omega
 rw [show (val hi lo).toNat=N from by unfold val;omega]
 have hq:((N:Int) / 10000000000000000000).toNat=N / 10000000000000000000:=by omega
 have hr:((N:Int) % 10000000000000000000).toNat=N % 10000000000000000000:=by omega
 have hlen:=nDigits_le_pow 18 (N % 10000000000000000000) (by rw [show (10:Nat) ^ (18+1)=10000000000000000000 from by decide];omega)
 rw [← Lib.decDigits_length] at hlen
 have hl1:((Lib.decDigits (N % 10000000000000000000)).length:Int)≤19:=by omega
 have hl0:Lib.repeatL [48] (19 - ((Lib.decDigits (N % 10000000000000000000)).length:Int)).toNat=Lib.repeatL [48] (19 - Lib.nDigits (N % 10000000000000000000)):=by
  congr 1
  rw [Lib.decDigits_length];rw [Lib.decDigits_length] at hl1;omega
 have HL0:Hid _:=hl0
 have hA:(Lib.decDigits (N / 10000000000000000000)).length≤20:=by
  rw [Lib.decDigits_length];exact nDigits_le_pow 19 _ (by rw [show (10:Nat) ^ (19+1)=100000000000000000000 from by decide];omega)
 have hZ:(Lib.repeatL [48] (19 - Lib.nDigits (N % 10000000000000000000))).length≤19:=by rw [repeat_48,List.length_replicate];omega
 have HD:Hid _:=hd
 clear hlen hl0
 have HP:Hid _:=dec_piece N
 have f1:=fun W (h:Tab W)=>fmt_any ((N:Int) / 10000000000000000000) q0 q1 W h
 have f2:=fun W (h:Tab W)=>fmt_any ((N:Int) % 10000000000000000000) r0 (by omega) W h
 rw [hq] at f1
 rw [hr] at f2
 have F1:Hid _:=f1
 have F2:Hid _:=f2
 clear hd hN f1 f2 hq hr
 have hfin:¬ (N:Int) / 10000000000000000000=0→Lib.decDigits (N / 10000000000000000000)++(Lib.repeatL [48] (19 - Lib.nDigits (N % 10000000000000000000))++Lib.decDigits (N % 10000000000000000000))=Lib.decDigits N:=by
  intro h
  exact HP.out (by omega)
 have HF:Hid _:=hfin
 clear HP hfin
 by_cases hz:(N:Int) / 10000000000000000000=0
 ·have hN2:N % 10000000000000000000=N:=by omega
  have HN2:Hid _:=hN2
  have hz':((N:Int) / 10000000000000000000 == 0)=true:=by rw [beq_iff_eq];exact hz
  clear hN2 hz
  go_enter Tryz.func122,Tryz.ntmps122
  go_wp2_with fail
  refine (HD.out _).mono ?_
  rintro e w1 ⟨rfl,k,rfl⟩
  go_wp2_with fail
  refine (F2.out _ (htab.drewN k)).mono ?_
  rintro e w2 ⟨rfl,hb⟩
  go_wp2
  go_ret
  refine ⟨?_,(Below.drewN' (Below.refl _ _) k).trans hb⟩
  rw [HN2.out]
  rfl
 ·have hz':((N:Int) / 10000000000000000000 == 0)=false:=by rw [beq_eq_false_iff_ne];exact hz
  have HF':Hid _:=HF.out hz
  clear HF
  generalize Lib.decDigits (N / 10000000000000000000)=A at *
  generalize Lib.repeatL [48] (19 - Lib.nDigits (N % 10000000000000000000))=Z at *
  generalize Lib.decDigits (N % 10000000000000000000)=C at *
  generalize Lib.decDigits N=D at *
  generalize (N:Int) / 10000000000000000000=q at *
  generalize (N:Int) % 10000000000000000000=r at *
  have c1:∀ W,(Op.stringOp .add ⟨A.toArray⟩ ⟨Z.toArray⟩).run Tryz.prog W=.ok (.string ⟨(A++Z).toArray⟩) W:=fun W=>run_string_add_lists W A Z (by omega) (by omega)
  have c2:∀ W,(Op.stringOp .add ⟨(A++Z).toArray⟩ ⟨C.toArray⟩).run Tryz.prog W=.ok (.string ⟨(A++Z++C).toArray⟩) W:=fun W=>run_string_add_lists W (A++Z) C (by rw [List.length_append];omega) (by omega)
  go_enter Tryz.func122,Tryz.ntmps122
  go_wp2_with fail
  refine (HD.out _).mono ?_
  rintro e w1 ⟨rfl,k,rfl⟩
  go_wp2_with fail
  refine (F2.out _ (htab.drewN k)).mono ?_
  rintro e w2 ⟨rfl,hb⟩
  go_wp2_with fail
  refine (F1.out _ ((htab.drewN k).below hb)).mono ?_
  rintro e w3 ⟨rfl,hb3⟩
  go_wp2_with fail
  refine (rep_any _ (by omega) (by omega) _).mono ?_
  rintro e w4 ⟨rfl,hb4⟩
  rw [HL0.out]
  go_wp2
  go_ret
  exact ⟨by rw [← HF'.out];rfl,(((Below.drewN' (Below.refl _ _) k).trans hb).trans (hb3.mono hb.size)).trans (hb4.mono (Nat.le_trans hb.size hb3.size))⟩
theorem mag_le {ah al:Int} (h1:Wf ah al):0≤hiOf (mag (val ah al))∧hiOf (mag (val ah al))≤9223372036854775808∧0≤loOf (mag (val ah al))∧loOf (mag (val ah al)) < 18446744073709551616:=by
 obtain ⟨_,_,_,_⟩:=h1
 unfold mag hiOf loOf val;split <;> omega
theorem itoa_neg' {n:Int} (h:n < 0):Lib.itoa n=45::Lib.decDigits (mag n).toNat:=by
 unfold Lib.itoa mag;rw [if_pos h,if_pos h,show n.natAbs=(-n).toNat from by omega]
theorem itoa_pos' {n:Int} (h:¬ n < 0):Lib.itoa n=Lib.decDigits (mag n).toNat:=by
 unfold Lib.itoa mag;rw [if_neg h,if_neg h]
theorem dec_len (N:Nat) (h:N≤170141183460469231731687303715884105728):(Lib.decDigits N).length≤39:=by
 rw [Lib.decDigits_length];exact nDigits_le_pow 38 _ (by rw [show (10:Nat) ^ (38+1)=1000000000000000000000000000000000000000 from by decide];omega)
theorem val_neg {ah al:Int} (h1:Wf ah al):val ah al < 0 ↔ ah < 0:=by
 obtain ⟨_,_,_,_⟩:=h1;unfold val;omega
theorem print_any (ah al:Int) (h1:Wf ah al) (w:World) (htab:Tab w) :
  Calls Tryz.prog 83 #[.agg #[.int .i64 ah,.int .u64 al]] w fun e w' =>
   e=.returned (.string ⟨(Lib.itoa (val ah al)).toArray⟩)∧Below w.heap.size w w':=by
 obtain ⟨m0,m1,m2,m3⟩:=mag_le h1
 have hd:=fun W=>digits_any _ _ m0 m1 m2 m3 W
 rw [val_hl] at hd
 have HD:Hid _:=hd
 have HM:Hid _:=mag_any ah al h1
 have hl:(Lib.decDigits (mag (val ah al)).toNat).length≤39:=dec_len _ (by obtain ⟨_,_,_,_⟩:=h1;unfold mag val;split <;> omega)
 clear hd
 by_cases hn:ah < 0
 ·rw [itoa_neg' ((val_neg h1).2 hn)]
  generalize Lib.decDigits (mag (val ah al)).toNat=D at *
  generalize hiOf (mag (val ah al))=mh at *
  generalize loOf (mag (val ah al))=ml at *
  have c1:∀ W,(Op.stringOp .add ⟨#[45]⟩ ⟨D.toArray⟩).run Tryz.prog W=.ok (.string ⟨(45::D).toArray⟩) W:=fun W=>run_string_add_lists W [45] D (by decide) (by omega)
  clear h1
  go_enter Tryz.func83,Tryz.ntmps83
  go_wp2_with fail
  refine (HM.out _).mono ?_
  rintro e w1 ⟨rfl,hb1⟩
  go_wp2_with fail
  refine (HD.out _ ((htab.alloc _).below hb1)).mono ?_
  rintro e w2 ⟨rfl,hb2⟩
  have hc:w2.cell? ⟨w.heap.size,0,none⟩=some (.int .i64 ah):=by
   rw [hb2.cell (p:=⟨w.heap.size,0,none⟩) (by have:=hb1.size;simp at this;simp;omega),hb1.cell (p:=⟨w.heap.size,0,none⟩) (by simp)]
   simp [go_sem]
  go_wp2
  go_ret
  exact ⟨rfl,((bel1 w _).trans (hb1.mono (by simp))).trans (hb2.mono (by have:=hb1.size;simp at this;omega))⟩
 ·rw [itoa_pos' (fun h=>hn ((val_neg h1).1 h))]
  generalize Lib.decDigits (mag (val ah al)).toNat=D at *
  generalize hiOf (mag (val ah al))=mh at *
  generalize loOf (mag (val ah al))=ml at *
  clear h1
  go_enter Tryz.func83,Tryz.ntmps83
  go_wp2_with fail
  refine (HM.out _).mono ?_
  rintro e w1 ⟨rfl,hb1⟩
  go_wp2_with fail
  refine (HD.out _ ((htab.alloc _).below hb1)).mono ?_
  rintro e w2 ⟨rfl,hb2⟩
  have hc:w2.cell? ⟨w.heap.size,0,none⟩=some (.int .i64 ah):=by
   rw [hb2.cell (p:=⟨w.heap.size,0,none⟩) (by have:=hb1.size;simp at this;simp;omega),hb1.cell (p:=⟨w.heap.size,0,none⟩) (by simp)]
   simp [go_sem]
  go_wp2
  go_ret
  exact ⟨rfl,((bel1 w _).trans (hb1.mono (by simp))).trans (hb2.mono (by have:=hb1.size;simp at this;omega))⟩
def readL (l:List UInt8):Int:=l.foldl (fun a c=>rnd (rnd (a*10)+((c.toNat:Int) - 48))) 0
theorem readL_snoc (l:List UInt8) (c:UInt8):readL (l++[c])=rnd (rnd (readL l*10)+((c.toNat:Int) - 48)):=by simp [readL]
theorem inR_readL (l:List UInt8):InR (readL l):=by
 rcases List.eq_nil_or_concat l with rfl | ⟨l',c,rfl⟩
 ·exact ⟨by decide,by decide⟩
 ·rw [List.concat_eq_append,readL_snoc];exact inR_rnd _
theorem take_snoc' (l:List UInt8) (k:Nat) (h:k < l.length):l.take (k+1)=l.take k++[l[k]]:=by
 rw [List.take_succ_eq_append_getElem h]
structure RdInv (w wr:World) (n:Int):Prop where
 below:Below w.heap.size w wr
 size:w.heap.size+1 < wr.heap.size
 c0:wr.cell? ⟨w.heap.size,0,none⟩=some (.int .i64 0)
 c1:wr.cell? ⟨w.heap.size,1,none⟩=some (.int .u64 0)
 d0:wr.cell? ⟨w.heap.size+1,0,none⟩=some (.int .i64 (hiOf n))
 d1:wr.cell? ⟨w.heap.size+1,1,none⟩=some (.int .u64 (loOf n))
 f0:wr.frozen? ⟨w.heap.size,0,none⟩=false
 f1:wr.frozen? ⟨w.heap.size,1,none⟩=false
 g0:wr.frozen? ⟨w.heap.size+1,0,none⟩=false
 g1:wr.frozen? ⟨w.heap.size+1,1,none⟩=false
theorem RdInv.step {w wr w1:World} {n:Int} (h:RdInv w wr n) (hb:Below wr.heap.size wr w1):RdInv w w1 n:=by
 obtain ⟨b,s,c0,c1,d0,d1,f0,f1,g0,g1⟩:=h
 refine ⟨b.trans (hb.mono b.size),by have:=hb.size;omega,?_,?_,?_,?_,?_,?_,?_,?_⟩
 ·rw [hb.cell (p:=⟨w.heap.size,0,none⟩) (by show w.heap.size < _;omega),c0]
 ·rw [hb.cell (p:=⟨w.heap.size,1,none⟩) (by show w.heap.size < _;omega),c1]
 ·rw [hb.cell (p:=⟨w.heap.size+1,0,none⟩) (by show w.heap.size+1 < _;omega),d0]
 ·rw [hb.cell (p:=⟨w.heap.size+1,1,none⟩) (by show w.heap.size+1 < _;omega),d1]
 ·rw [hb.frozen (p:=⟨w.heap.size,0,none⟩) (by show w.heap.size < _;omega),f0]
 ·rw [hb.frozen (p:=⟨w.heap.size,1,none⟩) (by show w.heap.size < _;omega),f1]
 ·rw [hb.frozen (p:=⟨w.heap.size+1,0,none⟩) (by show w.heap.size+1 < _;omega),g0]
 ·rw [hb.frozen (p:=⟨w.heap.size+1,1,none⟩) (by show w.heap.size+1 < _;omega),g1]
theorem RdInv.drew {w wr:World} {n:Int} (h:RdInv w wr n):RdInv w wr.drew n:=h.step (Below.drew (Below.refl _ _))
theorem RdInv.set {w wr:World} {n m:Int} (h:RdInv w wr n):RdInv w ((wr.setCell ⟨w.heap.size+1,0,none⟩ (.int .i64 (hiOf m))).setCell ⟨w.heap.size+1,1,none⟩ (.int .u64 (loOf m))) m:=by
 obtain ⟨b,s,c0,c1,d0,d1,f0,f1,g0,g1⟩:=h
 refine ⟨(b.setCell (by show w.heap.size≤w.heap.size+1;omega) _).setCell (by show w.heap.size≤w.heap.size+1;omega) _,by simpa [World.setCell] using s,?_,?_,?_,?_,?_,?_,?_,?_⟩ <;> simp [go_sem, *]
theorem read_any (s:ByteArray) (hs:s.size≤40) (w:World) :
  Calls Tryz.prog 131 #[.string s] w fun e w' =>
   e=.returned (num (if Lib.hasPrefix s.data.toList [45] then rnd (- readL (Lib.trimPrefix s.data.toList [45])) else readL (Lib.trimPrefix s.data.toList [45])))∧Below w.heap.size w w':=by
 have hT:(Lib.trimPrefix s.data.toList [45]).length≤40:=by
  unfold Lib.trimPrefix;split <;> simp <;> (have:s.data.size=s.size:=rfl;omega)
 have HC:Hid _:=fun W=>Tryz.strings_CutPrefix s ⟨#[45]⟩ W
 have hc:Hid (∀ W,Calls Tryz.prog 54 #[.string s,.string ⟨#[45]⟩] W fun e w'=>e=.returned (.tuple #[.string ⟨(Lib.trimPrefix s.data.toList [45]).toArray⟩,.bool (Lib.hasPrefix s.data.toList [45])])∧w'=W):=HC.out
 clear HC
 generalize Lib.trimPrefix s.data.toList [45]=T at *
 generalize Lib.hasPrefix s.data.toList [45]=b at *
 go_enter Tryz.func131,Tryz.ntmps131
 go_wp2_with fail
 refine (hc.out _).mono ?_
 rintro e w1 ⟨rfl,rfl⟩
 go_wp2
 go_loopw [14,6] (fun a _ wr=>∃ k:Nat,k≤T.length∧a=.int .i64 k∧RdInv w wr (readL (T.take k))) (fun a _ _=>T.length - (intOf a).toNat)
 case atStart =>
  refine ⟨0,Nat.zero_le _,rfl,(bel2 w _ _),?_,?_,?_,?_,?_,?_,?_,?_,?_⟩ <;> simp [go_sem,readL] <;> rfl
 case round =>
  obtain ⟨k,hk,rfl,iv⟩:=hrel
  have hi:=inR_readL (T.take k)
  by_cases hlt:k < T.length
  ·have hsn:readL (T.take (k+1))=rnd (rnd (readL (T.take k)*10)+((T[k].toNat:Int) - 48)):=by rw [take_snoc' T k hlt];exact readL_snoc _ _
   have HSN:Hid _:=hsn
   have IV:Hid _:=iv
   obtain ⟨b,s1,c0,c1,d0,d1,f0,f1,g0,g1⟩:=iv
   clear hsn
   have ht:=ten_any _ _ (wf_of hi)
   rw [val_hl] at ht
   have ho:=fun (x:Int) (h1:-9223372036854775808≤x) (h2:x≤9223372036854775807)=>add_any _ _ _ _ (wf_rnd (readL (T.take k)*10)) (wf_of (n:=x) ⟨by omega,by omega⟩)
   simp only [val_hl] at ho
   have HT:Hid _:=ht
   have HO:Hid _:=ho
   clear ht ho
   obtain ⟨c,hcc⟩:∃ c:Int,c=(T[k].toNat:Int) - 48:=⟨_,rfl⟩
   have hby:T[k].toNat < 256:=T[k].toNat_lt
   have hx:∀ h,IntKind.i64.wrap (IntKind.i64.wrap ((({ data:=T.toArray }:ByteArray)[k]'h).toNat:Int) - 48)=c:=by
    intro h
    have e:({ data:=T.toArray }:ByteArray)[k]'h=T[k]:=rfl
    rw [e,IntKind.wrap_i64,IntKind.wrap_i64,hcc]
    omega
   rw [← hcc] at HSN
   have hc1:-48≤c:=by omega
   have hc2:c≤255:=by omega
   have HX:Hid _:=hx
   clear hcc hby hx
   generalize readL (T.take k)=n at *
   go_wp2
   go_region_with (first
    | (go_at_call 159;refine (HT.out _).mono ?_;rintro e w1 ⟨rfl,hb1⟩)
    | (go_at_call 106;rw [HX.out];refine (of_any c (by omega) (by omega) _).mono ?_;rintro e w2 ⟨rfl,hb2⟩)
    | (go_at_call 75;refine (HO.out c (by omega) (by omega) _).mono ?_;rintro e w3 ⟨rfl,hb3⟩;have IV3:=((IV.out.drew.step hb1).step hb2).step hb3;obtain ⟨b3,s3,c03,c13,d03,d13,f03,f13,g03,g13⟩:=IV3))
   all_goals
    go_wp2
    go_roundw
    case rel=>exact ⟨k+1,by omega,by go_num,by rw [HSN.out];exact (((IV.out.drew.step hb1).step hb2).step hb3).set⟩
    case measure=>simp [intOf];omega
  ·rw [List.take_of_length_le (by omega)] at iv hi
   have IV:Hid _:=iv
   obtain ⟨b',s1,c0,c1,d0,d1,f0,f1,g0,g1⟩:=iv
   have hn:=neg_any _ _ (wf_of hi)
   rw [val_hl] at hn
   have HN:Hid _:=hn
   clear hn
   cases b
   ·go_wp2
    simp [bodyPost,results,Tryz.results131,go_sem,c0,c1]
    refine Below.setCell (Below.setCell b' ?_ _) ?_ _ <;> exact Nat.le_refl _
   ·go_wp2_with fail
    refine (HN.out _).mono ?_
    rintro e w1 ⟨rfl,hb1⟩
    obtain ⟨b1,s11,c01,c11,d01,d11,f01,f11,g01,g11⟩:=IV.out.step hb1
    go_wp2
    simp [bodyPost,results,Tryz.results131,go_sem,c01,c11]
    refine Below.setCell (Below.setCell b1 ?_ _) ?_ _ <;> exact Nat.le_refl _
def readF (l:List UInt8):Int:=if Lib.hasPrefix l [45] then rnd (- readL (Lib.trimPrefix l [45])) else readL (Lib.trimPrefix l [45])
theorem inR_readF (l:List UInt8):InR (readF l):=by
 unfold readF;split
 ·exact inR_rnd _
 ·exact inR_readL _
theorem own2 {w w1:World} {a b:Value} {t:TypeId} (hb:Below (w.alloc (.cells #[a,b] t)).heap.size (w.alloc (.cells #[a,b] t)) w1) :
  w1.cell? ⟨w.heap.size,0,none⟩=some a∧w1.cell? ⟨w.heap.size,1,none⟩=some b∧w1.frozen? ⟨w.heap.size,0,none⟩=false∧w1.frozen? ⟨w.heap.size,1,none⟩=false∧w.heap.size < w1.heap.size:=by
 refine ⟨?_,?_,?_,?_,by have:=hb.size;simp at this;omega⟩
 ·rw [hb.cell (p:=⟨w.heap.size,0,none⟩) (by simp)];simp [go_sem]
 ·rw [hb.cell (p:=⟨w.heap.size,1,none⟩) (by simp)];simp [go_sem]
 ·rw [hb.frozen (p:=⟨w.heap.size,0,none⟩) (by simp)];simp [go_sem]
 ·rw [hb.frozen (p:=⟨w.heap.size,1,none⟩) (by simp)];simp [go_sem]
theorem parse_long (s:ByteArray) (hs:40 < s.size) (w:World) :
  Calls Tryz.prog 91 #[.string s] w fun e w' =>
   e=.returned (.tuple #[.agg #[.int .i64 0,.int .u64 0],.int .i64 5])∧Below w.heap.size w w':=by
 have h':40 < (s.size:Int):=by omega
 go_enter Tryz.func91,Tryz.ntmps91
 go_wp2
 exact bodyPost_ret (v:=.tuple #[.agg #[.int .i64 0,.int .u64 0],.int .i64 5]) (by simp [results,Tryz.results91,go_sem]) rfl ⟨rfl,bel1 _ _⟩
theorem parse_short (s:ByteArray) (hs:s.size≤40) (w:World) (htab:Tab w) :
  Calls Tryz.prog 91 #[.string s] w fun e w' =>
   e=.returned (if Lib.itoa (readF s.data.toList)=s.data.toList then .tuple #[num (readF s.data.toList),.int .i64 0] else .tuple #[.agg #[.int .i64 0,.int .u64 0],.int .i64 5])∧Below w.heap.size w w':=by
 have h':(s.size:Int)≤40:=by omega
 have hr:=read_any s hs
 have hi:=inR_readF s.data.toList
 rw [show (if Lib.hasPrefix s.data.toList [45]=true then rnd (- readL (Lib.trimPrefix s.data.toList [45])) else readL (Lib.trimPrefix s.data.toList [45]))=readF s.data.toList from rfl] at hr
 have hp:=print_any _ _ (wf_of hi)
 rw [val_hl] at hp
 have HR:Hid _:=hr
 have HP:Hid _:=hp
 clear hr hp
 by_cases hc:Lib.itoa (readF s.data.toList)=s.data.toList
 ·rw [if_pos hc]
  have hq:(Lib.itoa (readF s.data.toList) == s.toList)=true:=by rw [beq_iff_eq,hc,ByteArray.toList_eq]
  clear hc
  generalize readF s.data.toList=n at *
  go_enter Tryz.func91,Tryz.ntmps91
  go_wp2_with fail
  refine (HR.out _).mono ?_
  rintro e w1 ⟨rfl,hb1⟩
  go_wp2_with fail
  refine (HP.out _ (((htab.alloc _).below hb1).alloc _)).mono ?_
  rintro e w2 ⟨rfl,hb2⟩
  obtain ⟨x1,x2,x3,x4,x5⟩:=own2 (hb1.trans ((bel1 w1 _).trans (hb2.mono (by simp)) |>.mono hb1.size))
  obtain ⟨y1,y2,y3,y4,y5⟩:=own2 hb2
  go_wp2
  refine bodyPost_ret (v:=.tuple #[num n,.int .i64 0]) (by simp [results,Tryz.results91,go_sem, *]) rfl ⟨rfl,?_⟩
  refine Below.setCell (Below.setCell ?_ ?_ _) ?_ _ <;> try exact Nat.le_refl _
  exact ((bel1 w _).trans (hb1.mono (by simp))).trans (((bel1 w1 _).trans (hb2.mono (by simp))).mono (by have:=hb1.size;simp at this;omega))
 ·rw [if_neg hc]
  have hq:(Lib.itoa (readF s.data.toList) == s.toList)=false:=by rw [beq_eq_false_iff_ne,ByteArray.toList_eq];exact hc
  clear hc
  generalize readF s.data.toList=n at *
  go_enter Tryz.func91,Tryz.ntmps91
  go_wp2_with fail
  refine (HR.out _).mono ?_
  rintro e w1 ⟨rfl,hb1⟩
  go_wp2_with fail
  refine (HP.out _ (((htab.alloc _).below hb1).alloc _)).mono ?_
  rintro e w2 ⟨rfl,hb2⟩
  obtain ⟨x1,x2,x3,x4,x5⟩:=own2 (hb1.trans ((bel1 w1 _).trans (hb2.mono (by simp)) |>.mono hb1.size))
  go_wp2
  refine bodyPost_ret (v:=.tuple #[.agg #[.int .i64 0,.int .u64 0],.int .i64 5]) (by simp [results,Tryz.results91,go_sem, *]) rfl ⟨rfl,?_⟩
  refine Below.setCell (Below.setCell ?_ ?_ _) ?_ _ <;> try exact Nat.le_refl _
  exact ((bel1 w _).trans (hb1.mono (by simp))).trans (((bel1 w1 _).trans (hb2.mono (by simp))).mono (by have:=hb1.size;simp at this;omega))
end Go.Proofs.YtfkbjdgbpenflaaGreatDoor.Wi
namespace Go.Proofs.YtfkbjdgbpenflaaGreatDoor.Wi
def isDig (c:UInt8):Bool:=decide (48≤c.toNat) && decide (c.toNat≤57)
def seen (l:List UInt8) (f m:Nat):List UInt8:=(l.take m).drop f
theorem seen_all (l:List UInt8) (f m:Nat) (h:l.length≤m):seen l f m=l.drop f:=by unfold seen;rw [List.take_of_length_le h]
def refV (l:List UInt8) (f:Nat):Int:=if f=1 then rnd (- readL (seen l f 41)) else readL (seen l f 41)
def fromOf (l:List UInt8):Nat:=if Lib.hasPrefix l [45] then 1 else 0
theorem dec_dig:∀ (k u:Nat),u < 10 ^ (k+1)→∀ c ∈ Lib.decDigits u,isDig c=true
 | k,u,h,c,hc=>by
  by_cases hu:u < 10
  ·rw [dec_small hu] at hc
   simp only [List.mem_singleton] at hc
   subst hc
   unfold isDig
   rw [UInt8.toNat_ofNat']
   simp;omega
  ·match k,h with
   | 0,h=>simp at h;omega
   | k+1,h =>
    rw [dec_big hu,List.mem_append] at hc
    rcases hc with hc | hc
    ·exact dec_dig k (u / 10) (by rw [Nat.pow_succ] at h;omega) c hc
    ·simp only [List.mem_singleton] at hc
     subst hc
     unfold isDig
     rw [UInt8.toNat_ofNat']
     simp;omega
theorem dec_dig' (u:Nat) (h:u≤170141183460469231731687303715884105728):(Lib.decDigits u).all isDig=true:=by
 rw [List.all_eq_true]
 exact dec_dig 38 u (by rw [show (10:Nat) ^ (38+1)=1000000000000000000000000000000000000000 from by decide];omega)
theorem dec_ne_nil (u:Nat):Lib.decDigits u≠[]:=by
 intro h
 have:=Lib.decDigits_length u
 rw [h] at this
 have:=Lib.nDigits_pos u
 simp at *
 omega
theorem pre_cons (l:List UInt8):Lib.hasPrefix (45::l) [45]=true:=by simp [Lib.hasPrefix,List.isPrefixOf]
theorem pre_dec (u:Nat) (h:u≤170141183460469231731687303715884105728):Lib.hasPrefix (Lib.decDigits u) [45]=false:=by
 have ha:=dec_dig' u h
 cases hl:Lib.decDigits u with
 | nil=>exact absurd hl (dec_ne_nil u)
 | cons c r =>
  rw [hl] at ha
  simp only [List.all_cons,Bool.and_eq_true] at ha
  have hc:c≠45:=by
   intro e
   rw [e] at ha
   exact absurd ha.1 (by decide)
  simp [Lib.hasPrefix,List.isPrefixOf]
  exact fun e=>hc e.symm
theorem mag_le' {n:Int} (h:InR n):(mag n).toNat≤170141183460469231731687303715884105728:=by
 obtain ⟨_,_⟩:=h;unfold mag;split <;> omega
theorem itoa_len {n:Int} (h:InR n):(Lib.itoa n).length≤40:=by
 have:=dec_len (mag n).toNat (mag_le' h)
 by_cases hn:n < 0
 ·rw [itoa_neg' hn];simp;omega
 ·rw [itoa_pos' hn];omega
theorem itoa_letters {n:Int} (h:InR n):(Lib.itoa n).drop (fromOf (Lib.itoa n))=Lib.decDigits (mag n).toNat∧fromOf (Lib.itoa n)=if n < 0 then 1 else 0:=by
 unfold fromOf
 by_cases hn:n < 0
 ·rw [itoa_neg' hn,pre_cons,if_pos hn];simp
 ·rw [itoa_pos' hn,pre_dec _ (mag_le' h),if_neg hn];simp
theorem trim_eq (l:List UInt8):Lib.trimPrefix l [45]=l.drop (fromOf l):=by
 unfold Lib.trimPrefix fromOf;split <;> simp
theorem readF_eq (l:List UInt8) (h:l.length≤40):readF l=refV l (fromOf l):=by
 unfold readF refV
 rw [seen_all l _ 41 (by omega),trim_eq]
 unfold fromOf
 split
 ·rfl
 ·rfl
end Go.Proofs.YtfkbjdgbpenflaaGreatDoor.Wi
namespace Go.Proofs.YtfkbjdgbpenflaaGreatDoor.Wi
open Go.RowKit Go.Sort
theorem readL_dec (u:Nat):readL (Lib.decDigits u)=rnd (u:Int):=by
 induction u using Nat.strongRecOn with
 | _ u ih =>
  by_cases h:u < 10
  ·rw [dec_small h]
   have:=readL_snoc [] (UInt8.ofNat (48+u))
   rw [List.nil_append] at this
   rw [this,UInt8.toNat_ofNat',show readL []=0 from rfl]
   unfold rnd
   omega
  ·rw [dec_big h,readL_snoc,ih (u / 10) (by omega),UInt8.toNat_ofNat']
   unfold rnd
   omega
theorem readF_itoa {n:Int} (h:InR n):readF (Lib.itoa n)=n:=by
 have hl:=itoa_len h
 obtain ⟨l1,l2⟩:=itoa_letters h
 rw [readF_eq _ hl]
 unfold refV
 rw [seen_all _ _ 41 (by omega),l1,l2,readL_dec]
 obtain ⟨_,_⟩:=h
 by_cases hn:n < 0
 ·rw [if_pos hn,if_pos rfl]
  unfold mag rnd
  rw [if_pos hn]
  omega
 ·rw [if_neg hn,if_neg (by decide)]
  unfold mag rnd
  rw [if_neg hn]
  omega
end Go.Proofs.YtfkbjdgbpenflaaGreatDoor.Wi
