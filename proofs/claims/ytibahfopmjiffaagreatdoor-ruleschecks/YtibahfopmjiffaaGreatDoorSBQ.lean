/- Own work of the verifier. -/
import Derived.Test.YtibahfopmjiffaaGreatDoorSAA
import Derived.Lib.ItoaNum
import Derived.Lib.Repeat
import Derived.WalkKit
import Derived.Laws.Bits64
import Derived.Laws.BitsAllLaws
import Derived.Lib.ItoaMem
import Derived.Laws.Strings
import Derived.Handy
import Derived.LoopN
import Derived.Deep.RegionWith
import Derived.OwnWalk
namespace Go.Proofs.YtibahfopmjiffaaGreatDoor.Wi
open Go.RowKit
theorem bcell {W w1:World} (hb:Below W.heap.size W w1):(∀ b o,b < W.heap.size→w1.cell? ⟨b,o,none⟩=W.cell? ⟨b,o,none⟩)∧(∀ b o,b < W.heap.size→w1.frozen? ⟨b,o,none⟩=W.frozen? ⟨b,o,none⟩) :=
  ⟨fun b o h=>hb.cell (p:=⟨b,o,none⟩) h,fun b o h=>hb.frozen (p:=⟨b,o,none⟩) h⟩
theorem Below.drewN' {B:Nat} {a w:World} (h:Below B a w) (n:Nat):Below B a (w.drewN n):=by
  induction n with
  | zero=>exact h
  | succ n ih=>exact ⟨ih.os,ih.tape,ih.output,ih.size,ih.block⟩
def mag (n:Int):Int:=if n < 0 then -n else n
theorem mag_words {ah al:Int} (h1:Wf ah al) (hn:0≤ah):ah=hiOf (mag (val ah al))∧al=loOf (mag (val ah al)):=by
  obtain ⟨_,_,_,_⟩:=h1
  have:mag (val ah al)=val ah al:=by unfold mag;rw [if_neg (by unfold val;omega)]
  rw [this];unfold hiOf loOf val;constructor <;> omega
theorem mag_words' {ah al:Int} (h1:Wf ah al) (hn:ah < 0):IntKind.u64.wrap (hiOf (rnd (- val ah al)))=hiOf (mag (val ah al))∧loOf (rnd (- val ah al))=loOf (mag (val ah al)):=by
  obtain ⟨_,_,_,_⟩:=h1
  have:mag (val ah al)=- val ah al:=by unfold mag;rw [if_pos (by unfold val;omega)]
  rw [this,IntKind.wrap_u64];unfold hiOf loOf rnd val;constructor <;> omega
end Go.Proofs.YtibahfopmjiffaaGreatDoor.Wi
/- THE PLAIN MATHEMATICS of numerals (no Go in sight). Own work of the verifier. -/
namespace Go.Proofs.YtibahfopmjiffaaGreatDoor.Wi
theorem nDigits_le_pow:∀ (k u:Nat),u < 10 ^ (k+1)→Lib.nDigits u≤k+1
  | 0,u,h=>by rw [Lib.nDigits_small (by simpa using h)];omega
  | k+1,u,h=>by
    by_cases hu:u < 10
    · rw [Lib.nDigits_small hu];omega
    · rw [Lib.nDigits_big hu]
      have:=nDigits_le_pow k (u / 10) (by rw [Nat.pow_succ] at h;omega)
      omega
end Go.Proofs.YtibahfopmjiffaaGreatDoor.Wi
/- THE DOCUMENT's TEXTS: the magnitude, and its tenth. Own work of the verifier. -/
set_option maxRecDepth 100000
set_option maxHeartbeats 2000000
namespace Go.Proofs.YtibahfopmjiffaaGreatDoor.Wi
open Go.RowKit Go.Sort
theorem size_any (ah al:Int) (h1:Wf ah al) (w:World) :
    Calls Tryz.prog 127 #[.agg #[.int .i64 ah,.int .u64 al]] w fun e w' =>
      e=.returned (.tuple #[.int .u64 (hiOf (mag (val ah al))),.int .u64 (loOf (mag (val ah al)))])∧Below w.heap.size w w':=by
  by_cases hn:0≤ah
  · obtain ⟨e1,e2⟩:=mag_words h1 hn
    rw [← e1,← e2]
    clear e1 e2
    obtain ⟨a1,a2,a3,a4⟩:=h1
    go_enter Tryz.func127,Tryz.ntmps127
    go_wp2
    go_quiet (fail)
    go_wp2
    go_ret2
    exact ⟨rfl,Below.drewN' (bel1 w _) _⟩
  · obtain ⟨e1,e2⟩:=mag_words' h1 (by omega)
    rw [← e1,← e2]
    clear e1 e2
    have hn':ah < 0:=by omega
    go_enter Tryz.func127,Tryz.ntmps127
    go_wp2_with fail
    refine (refneg_any _ _ h1 _).mono ?_
    rintro e w1 ⟨rfl,hb⟩
    obtain ⟨hc,hf⟩:=bcell hb
    have hz:w.heap.size < w1.heap.size:=by have:=hb.size;simp at this;omega
    go_wp2
    go_quiet (fail)
    go_wp2
    go_ret2
    exact ⟨rfl,Below.drewN' ((((bel1 w _).trans (hb.mono (by simp))).setCell (by simp) _).setCell (by simp) _) _⟩
theorem tenth_w (a b p0 p1 p2 p3:Int) (e0:a / 4294967296=p0) (e1:bits .and .u64 a 4294967295=p1) (e2:b / 4294967296=p2) (e3:bits .and .u64 b 4294967295=p3)
    (z00:0≤p0) (z01:p0 < 4294967296) (z10:0≤p1) (z11:p1 < 4294967296) (z20:0≤p2) (z21:p2 < 4294967296) (z30:0≤p3) (z31:p3 < 4294967296) (w:World) :
    Calls Tryz.prog 128 #[.int .u64 a,.int .u64 b] w fun e w' =>
      e=.returned (.tuple #[.int .u64 (p0 / 10*4294967296+(p0 % 10*4294967296+p1) / 10),.int .u64 (((p0 % 10*4294967296+p1) % 10*4294967296+p2) / 10*4294967296+(((p0 % 10*4294967296+p1) % 10*4294967296+p2) % 10*4294967296+p3) / 10),.int .u64 ((((p0 % 10*4294967296+p1) % 10*4294967296+p2) % 10*4294967296+p3) % 10)])∧Below w.heap.size w w':=by
  go_enter Tryz.func128,Tryz.ntmps128
  go_wp2
  go_rounds 5
  go_quiet (fail)
  go_wp2
  go_ret3
  exact ⟨rfl,Below.drewN' (bel1 _ _) _⟩
theorem tenth_math {N p0 p1 p2 p3:Int} (hN:N=((p0*4294967296+p1)*4294967296+p2)*4294967296+p3) (z10:0≤p1) (z11:p1 < 4294967296) (z20:0≤p2) (z21:p2 < 4294967296) (z30:0≤p3) (z31:p3 < 4294967296) :
    p0 / 10*4294967296+(p0 % 10*4294967296+p1) / 10=hiOf (N / 10)∧((p0 % 10*4294967296+p1) % 10*4294967296+p2) / 10*4294967296+(((p0 % 10*4294967296+p1) % 10*4294967296+p2) % 10*4294967296+p3) / 10=loOf (N / 10) ∧
    (((p0 % 10*4294967296+p1) % 10*4294967296+p2) % 10*4294967296+p3) % 10=N % 10:=by
  unfold hiOf loOf
  generalize h0:p0 / 10=q0
  generalize g0:p0 % 10=r0
  generalize h1:(r0*4294967296+p1) / 10=q1
  generalize g1:(r0*4294967296+p1) % 10=r1
  generalize h2:(r1*4294967296+p2) / 10=q2
  generalize g2:(r1*4294967296+p2) % 10=r2
  generalize h3:(r2*4294967296+p3) / 10=q3
  generalize g3:(r2*4294967296+p3) % 10=r3
  have e:N=(((q0*4294967296+q1)*4294967296+q2)*4294967296+q3)*10+r3:=by omega
  have b:0≤q1∧q1 < 4294967296∧0≤q2∧q2 < 4294967296∧0≤q3∧q3 < 4294967296∧0≤r3∧r3 < 10:=by omega
  clear hN h0 g0 h1 g1 h2 g2 h3 g3
  omega
theorem tenth_any (N:Int) (h0:0≤N) (h1:N < 340282366920938463463374607431768211456) (w:World) :
    Calls Tryz.prog 128 #[.int .u64 (hiOf N),.int .u64 (loOf N)] w fun e w' =>
      e=.returned (.tuple #[.int .u64 (hiOf (N / 10)),.int .u64 (loOf (N / 10)),.int .u64 (N % 10)])∧Below w.heap.size w w':=by
  have a0:0≤hiOf N:=by unfold hiOf;omega
  have a1:hiOf N < 18446744073709551616:=by unfold hiOf;omega
  have b0:0≤loOf N:=by unfold loOf;omega
  have b1:loOf N < 18446744073709551616:=by unfold loOf;omega
  have hN:N=hiOf N*18446744073709551616+loOf N:=(val_hl N).symm
  generalize hiOf N=a at *
  generalize loOf N=b at *
  obtain ⟨t1,t2,t3⟩:=tenth_math (N:=N) (p0:=a / 4294967296) (p1:=a % 4294967296) (p2:=b / 4294967296) (p3:=b % 4294967296) (by omega) (by omega) (by omega) (by omega) (by omega) (by omega) (by omega)
  have h:=tenth_w a b _ _ _ _ rfl (low32 a a0 a1) rfl (low32 b b0 b1) (by omega) (by omega) (by omega) (by omega) (by omega) (by omega) (by omega) (by omega) w
  rw [t1,t2,t3] at h
  exact h
end Go.Proofs.YtibahfopmjiffaaGreatDoor.Wi
/- Own work of the verifier. -/
namespace Go.Proofs.YtibahfopmjiffaaGreatDoor.Wi
open Go.RowKit Go.Sort
theorem mag_0 (n:Int):0≤mag n:=by unfold mag;split <;> omega
theorem itoa_neg' {n:Int} (h:n < 0):Lib.itoa n=45::Lib.decDigits (mag n).toNat:=by
  unfold Lib.itoa mag;rw [if_pos h,if_pos h,show n.natAbs=(-n).toNat from by omega]
theorem itoa_pos' {n:Int} (h:¬ n < 0):Lib.itoa n=Lib.decDigits (mag n).toNat:=by
  unfold Lib.itoa mag;rw [if_neg h,if_neg h]
theorem val_neg {ah al:Int} (h1:Wf ah al):val ah al < 0 ↔ ah < 0:=by
  obtain ⟨_,_,_,_⟩:=h1;unfold val;omega
end Go.Proofs.YtibahfopmjiffaaGreatDoor.Wi
/- Own work of the verifier. -/
namespace Go.Proofs.YtibahfopmjiffaaGreatDoor.Wi
open Go.RowKit Go.Sort
theorem take_snoc' (l:List UInt8) (k:Nat) (h:k < l.length):l.take (k+1)=l.take k++[l[k]]:=by
  rw [List.take_succ_eq_append_getElem h]
end Go.Proofs.YtibahfopmjiffaaGreatDoor.Wi
/- Own work of the verifier. -/
namespace Go.Proofs.YtibahfopmjiffaaGreatDoor.Wi
open Go.RowKit Go.Sort
theorem own2 {w w1:World} {a b:Value} {t:TypeId} (hb:Below (w.alloc (.cells #[a,b] t)).heap.size (w.alloc (.cells #[a,b] t)) w1) :
    w1.cell? ⟨w.heap.size,0,none⟩=some a∧w1.cell? ⟨w.heap.size,1,none⟩=some b∧w1.frozen? ⟨w.heap.size,0,none⟩=false∧w1.frozen? ⟨w.heap.size,1,none⟩=false∧w.heap.size < w1.heap.size:=by
  refine ⟨?_,?_,?_,?_,by have:=hb.size;simp at this;omega⟩
  · rw [hb.cell (p:=⟨w.heap.size,0,none⟩) (by simp)];simp [go_sem]
  · rw [hb.cell (p:=⟨w.heap.size,1,none⟩) (by simp)];simp [go_sem]
  · rw [hb.frozen (p:=⟨w.heap.size,0,none⟩) (by simp)];simp [go_sem]
  · rw [hb.frozen (p:=⟨w.heap.size,1,none⟩) (by simp)];simp [go_sem]
end Go.Proofs.YtibahfopmjiffaaGreatDoor.Wi
/- THE DOCUMENT's TEXTS: Print. Own work of the verifier. -/
set_option maxRecDepth 100000
set_option maxHeartbeats 2000000
namespace Go.Proofs.YtibahfopmjiffaaGreatDoor.Wi
open Go.RowKit Go.Sort
def byteV (b:UInt8):Value:=.int .u8 (b.toNat:Int)
def backL (N k:Nat):List UInt8:=(List.range k).map (Lib.dg N)
theorem backL_succ (N k:Nat):backL N (k+1)=backL N k++[Lib.dg N k]:=by simp [backL,List.range_succ]
theorem backL_len (N k:Nat):(backL N k).length=k:=by simp [backL]
theorem backL_rev (N:Nat):(backL N (Lib.nDigits N)).reverse=Lib.decDigits N:=by
  rw [Lib.decDigits_eq]
  apply List.ext_getElem (by simp [backL])
  intro i h1 h2
  simp [backL,List.getElem_reverse]
theorem dg_val (N k:Nat):((Lib.dg N k).toNat:Int)=48+(N / 10 ^ k:Nat) % 10:=by
  unfold Lib.dg
  rw [UInt8.toNat_ofNat']
  omega
theorem le_of_lt_nDigits:∀ (k u:Nat),1≤k→k < Lib.nDigits u→10 ^ k≤u
  | 0,_,h,_=>by omega
  | 1,u,_,h=>by
    by_cases hu:u < 10
    · rw [Lib.nDigits_small hu] at h;omega
    · simp;omega
  | k+2,u,_,h=>by
    by_cases hu:u < 10
    · rw [Lib.nDigits_small hu] at h;omega
    · rw [Lib.nDigits_big hu] at h
      have:=le_of_lt_nDigits (k+1) (u / 10) (by omega) (by omega)
      rw [Nat.pow_succ]
      omega
def lenOf:Value→Nat | .slice _ n _=>n | _=>0
theorem own_below {B:Nat} {e:TypeId} {k:Nat} {v:Value} {n:Nat} {xs:List Value} {w w':World} (h:w.ownsRow B e k v n xs) (hb:Below w.heap.size w w'):w'.ownsRow B e k v n xs:=by
  obtain ⟨h1,h2⟩:=h
  refine ⟨h1,?_⟩
  rcases h2 with h2 | ⟨g,cap,cur,hv,hg,hh,r⟩
  · exact Or.inl h2
  · have hlt:g < w.heap.size:=by
      rcases Nat.lt_or_ge g w.heap.size with h' | h'
      · exact h'
      · rw [Array.getElem?_eq_none h'] at hh;cases hh
    exact Or.inr ⟨g,cap,cur,hv,hg,by rw [hb.block g hlt];exact hh,r⟩
theorem infoByte:(Tryz.prog.info? 5).map (fun i=>(i.zero,i.size,i.bytes))=some (some (.int .u8 0),1,1):=by kernel_rfl
theorem round_math (N k:Nat) (hk:k≤Lib.nDigits N) (hgo:N / 10 ^ k≠0∨k=0) (hNle:N≤170141183460469231731687303715884105728) :
    ∃ M M2:Int,M=((N / 10 ^ k:Nat):Int)∧M2=((N / 10 ^ (k+1):Nat):Int)∧M / 10=M2∧0≤M∧M < 340282366920938463463374607431768211456∧48+M % 10=((Lib.dg N k).toNat:Int)∧k < Lib.nDigits N ∧
      ((hiOf M != 0)=true∨(hiOf M != 0)=false∧(loOf M != 0)=true∨(hiOf M != 0)=false∧(loOf M != 0)=false∧((k:Int) == 0)=true):=by
  have hk1:k < Lib.nDigits N:=by
    rcases Nat.lt_or_eq_of_le hk with h | h
    · exact h
    · exfalso
      have:=Lib.lt_pow_nDigits N
      have hp:=Lib.nDigits_pos N
      rw [← h] at this hp
      rcases hgo with h' | h'
      · exact h' (Nat.div_eq_of_lt this)
      · omega
  have hdg:=dg_val N k
  have hM:N / 10 ^ k≤N:=Nat.div_le_self _ _
  have hnext:N / 10 ^ (k+1)=N / 10 ^ k / 10:=by rw [Nat.pow_succ,Nat.div_div_eq_div_mul]
  rw [hnext]
  clear hnext
  generalize N / 10 ^ k=x at *
  refine ⟨(x:Int),((x / 10:Nat):Int),rfl,rfl,by omega,by omega,by omega,hdg.symm,hk1,?_⟩
  by_cases a1:hiOf (x:Int)=0
  · by_cases a2:loOf (x:Int)=0
    · refine Or.inr (Or.inr ⟨by simp [a1],by simp [a2],?_⟩)
      have v0:=val_hl (x:Int)
      rw [a1,a2,show val 0 0=0 from by decide] at v0
      rw [beq_iff_eq]
      rcases hgo with h' | h'
      · omega
      · omega
    · exact Or.inr (Or.inl ⟨by simp [a1],by simp [a2]⟩)
  · exact Or.inl (by simp [a1])
theorem end_math (N k:Nat) (hk:k≤Lib.nDigits N) (hgo:¬ (N / 10 ^ k≠0∨k=0)):k=Lib.nDigits N∧N / 10 ^ k=0∧k≠0:=by
  have h1:N / 10 ^ k=0:=by
    rcases Nat.eq_zero_or_pos (N / 10 ^ k) with h | h
    · exact h
    · exact absurd (Or.inl (by omega)) hgo
  have h2:k≠0:=fun h=>hgo (Or.inr h)
  refine ⟨?_,h1,h2⟩
  rcases Nat.lt_or_eq_of_le hk with h | h
  · exfalso
    have:=le_of_lt_nDigits k N (by omega) h
    have hp:0 < 10 ^ k:=Nat.pow_pos (by decide)
    have:=Nat.div_pos this hp
    omega
  · exact h
theorem own_shape {w:World} {B:Nat} {e:TypeId} {v:Value} {n:Nat} {xs:List Value} (h:w.ownsRow B e 1 v n xs) (hn:v≠.slice none 0 0):∃ g cap,v=.slice (some ⟨g,0,none⟩) n cap:=by
  rcases h.2 with h2 | ⟨g,cap,_,hv,_⟩
  · exact absurd h2.1 hn
  · exact ⟨g,cap,hv⟩
theorem grown_below {B:Nat} {W w1 w2:World} {row:Nat} (h:Below B W w1) (hB:B≤w1.heap.size) (hg:w1.grownBy w2 (some row)) (hr:B≤row):Below B W w2 :=
  h.grown hg hB (fun k e=>by cases e;exact hr)
theorem own_lt {w:World} {B:Nat} {e:TypeId} {g n cap:Nat} {xs:List Value} (h:w.ownsRow B e 1 (.slice (some ⟨g,0,none⟩) n cap) n xs):g < w.heap.size:=by
  rcases h.2 with h2 | ⟨g',_,cur,hv,_,hh,_⟩
  · cases h2.1
  · cases hv
    rcases Nat.lt_or_ge g w.heap.size with h' | h'
    · exact h'
    · rw [Array.getElem?_eq_none h'] at hh;cases hh
theorem own_block {w:World} {B:Nat} {e:TypeId} {g n cap:Nat} {xs:List Value} (h:w.ownsRow B e 1 (.slice (some ⟨g,0,none⟩) n cap) n xs):B≤g:=by
  rcases h.2 with h2 | ⟨g',_,_,hv,hg,_⟩
  · cases h2.1
  · cases hv;exact hg
theorem back_cell {w:World} {B g cap N k:Nat} {e:TypeId} (h:w.ownsRow B e 1 (.slice (some ⟨g,0,none⟩) k cap) k ((backL N k).map byteV)) (j:Nat) (hj:j < (backL N k).reverse.length) :
    w.cell? ⟨g,k - 1 - j,none⟩=some (byteV ((backL N k).reverse[j])):=by
  have hk:j < (backL N k).length:=by simpa using hj
  have e1:((backL N k).map byteV)[k - 1 - j]? =some (byteV ((backL N k).reverse[j])):=by
    have e2:(backL N k)[k - 1 - j]? =some ((backL N k).reverse[j]):=by
      rw [← List.getElem?_eq_getElem hj,List.getElem?_reverse hk,backL_len]
    rw [List.getElem?_map,e2]
    rfl
  have:=h.cells (g:=g) rfl (k - 1 - j) _ e1
  rw [Lib.add_plain] at this
  simpa using this
theorem refprint_any (ah al:Int) (h1:Wf ah al) (w:World) :
    Calls Tryz.prog 90 #[.agg #[.int .i64 ah,.int .u64 al]] w fun e w' =>
      e=.returned (.string ⟨(Lib.itoa (val ah al)).toArray⟩)∧Below w.heap.size w w':=by
  obtain ⟨i0,hi,hz0,hz1,hz2⟩:=info_parts infoByte
  obtain ⟨N,hN⟩:∃ N:Nat,(N:Int)=mag (val ah al):=⟨(mag (val ah al)).toNat,by have:=mag_0 (val ah al);omega⟩
  have hNle:N≤170141183460469231731687303715884105728:=by obtain ⟨_,_,_,_⟩:=h1;unfold mag val at hN;split at hN <;> omega
  have hs:=size_any ah al h1
  rw [← hN] at hs
  have HS:Hid _:=hs
  have hnd:Lib.nDigits N≤39:=nDigits_le_pow 38 _ (by rw [show (10:Nat) ^ (38+1)=1000000000000000000000000000000000000000 from by decide];omega)
  have HN:Hid _:=hN
  clear hs hN
  go_enter Tryz.func90,Tryz.ntmps90
  go_wp2_with fail
  refine (HS.out _).mono ?_
  rintro e W1 ⟨rfl,hb1⟩
  go_wp2
  go_loopw [3,4,5] (fun a b v wr=>∃ (k g cap:Nat),k≤Lib.nDigits N∧a=.int .u64 (hiOf ((N / 10 ^ k:Nat):Int))∧b=.int .u64 (loOf ((N / 10 ^ k:Nat):Int))∧v=.slice (some ⟨g,0,none⟩) k cap ∧
      wr.ownsRow W1.heap.size 5 1 v k ((backL N k).map byteV)∧Below W1.heap.size W1 wr) (fun _ _ v _=>Lib.nDigits N - lenOf v)
  case atStart =>
    refine ⟨0,W1.heap.size,0,Nat.zero_le _,by simp,by simp,rfl,⟨by simp [backL],Or.inr ⟨W1.heap.size,0,#[],rfl,Nat.le_refl _,?_,by decide,by decide,rfl,by simp [backL]⟩⟩,bel1 _ _⟩
    exact (MapKept.heap_alloc W1 _).1
  case round =>
    obtain ⟨k,g,cap,hk,rfl,rfl,rfl,hown,hnx⟩:=hrel
    by_cases hgo:N / 10 ^ k≠0∨k=0
    · obtain ⟨M,M2,eM,eM2,hm2,m0,m1,hdg,hk1,hor⟩:=round_math N k hk hgo hNle
      have ht:=tenth_any M m0 m1
      rw [hm2] at ht
      rw [← eM]
      have HT:Hid _:=ht
      have EM:Hid _:=eM
      have EM2:Hid _:=eM2
      have HDG:Hid _:=hdg
      have r0:0≤M % 10:=by omega
      have r1:M % 10 < 10:=by omega
      have hbg:=own_block hown
      clear ht eM eM2 hdg hgo hm2 m0 m1
      rcases hor with c1 | ⟨c1,c2⟩ | ⟨c1,c2,c3⟩
      all_goals
        go_wp2_with fail
        refine (HT.out _).mono ?_
        rintro e w1 ⟨rfl,hbt⟩
        go_wp2_with (at_builtin;refine wpList_append_own _ rfl _ _ 54 rfl W1.heap.size 5 i0 (.int .u8 0) 1 1 Tryz.underlying54 hi hz0 hz1 hz2 rfl (by decide) _ _ _ rfl ((own_below hown hbt).alloc _) ⟨w1.heap.size,0,none⟩ 1 1 [.int .u8 (48+M % 10)] rfl rfl (cell_one_new _ _ _) (by intro u hu;simp at hu;subst hu;rfl) (by unfold maxLen;omega) (by omega) (by have:=hbt.size;have:=hnx.size;simp;omega) ?_;intro v' w2 hown' hgrow hnil)
        have hne:v'≠.slice none 0 0:=fun h=>by
          have h2:Value.slice (some ⟨g,0,none⟩) k cap=.slice none 0 0:=(hnil.1 h).1
          cases h2
        have hgr:(w1.alloc (Obj.cells #[.int .u8 (48+M % 10)] 5)).grownBy w2 (some g):=hgrow
        obtain ⟨g',cap',hv'⟩:=own_shape hown' hne
        have B1:Below W1.heap.size W1 w1:=hnx.trans (hbt.mono hnx.size)
        have B2:Below W1.heap.size W1 w2:=grown_below (B1.alloc B1.size _) (by have:=B1.size;simp;omega) hgr hbg
        have hrow:List.map byteV (backL N k)++[Value.int IntKind.u8 (48+M % 10)]=List.map byteV (backL N (k+1)):=by
          rw [backL_succ,List.map_append,HDG.out];rfl
        rw [hrow] at hown'
        clear hnil hgrow hgr hne hrow
        go_roundw
        case rel=>exact ⟨k+1,g',cap',hk1,by rw [EM2.out],by rw [EM2.out],hv',hown',B2⟩
        case measure=>subst hv';simp [lenOf];omega
    · obtain ⟨ek,hz,hk0⟩:=end_math N k hk hgo
      have hbg:=own_block hown
      have h0:(hiOf (0:Int) != 0)=false:=by decide
      have h0':(loOf (0:Int) != 0)=false:=by decide
      have h0k:((k:Int) == 0)=false:=by rw [beq_eq_false_iff_ne];omega
      have hca0:W1.cell? ⟨w.heap.size,0,none⟩=some (.int .i64 ah):=(own2 hb1).1
      have hlt1:w.heap.size < W1.heap.size:=(own2 hb1).2.2.2.2
      have hca:∀ ob,(wr.alloc ob).cell? ⟨w.heap.size,0,none⟩=some (.int .i64 ah):=fun ob=>by
        rw [(hnx.alloc hnx.size ob).cell (p:=⟨w.heap.size,0,none⟩) hlt1,hca0]
      obtain ⟨wo,rfl⟩:∃ wo,wo=wr:=⟨wr,rfl⟩
      have hown0:(wo.alloc (.cells #[] 5)).ownsRow wo.heap.size 5 1 (.slice (some ⟨wo.heap.size,0,none⟩) 0 0) 0 [] :=
        ⟨rfl,Or.inr ⟨wo.heap.size,0,#[],rfl,Nat.le_refl _,(MapKept.heap_alloc wo _).1,by decide,by decide,rfl,rfl⟩⟩
      have BW:Below w.heap.size w wo:=(((bel1 w _).trans (hb1.mono (by simp))).trans (hnx.mono (by omega)))
      have EK:Hid (k=Lib.nDigits N):=ek
      have hk39:k≤39:=by omega
      rw [hz]
      simp only [Int.natCast_zero]
      clear hz hgo hca0 ek
      by_cases hn:ah < 0
      · have hit:[45]++Lib.decDigits N=Lib.itoa (val ah al):=by rw [itoa_neg' ((val_neg h1).2 hn),← HN.out];simp
        have HIT:Hid _:=hit
        clear hit
        have hnews:∀ j u,[Value.int IntKind.u8 45][j]? =some u→((wo.alloc (.cells #[] 5)).alloc (.cells #[.int .u8 45] 5)).cell? ((⟨wo.heap.size+1,0,none⟩:Addr).add j)=some u:=by
          have h:=cell_one_new (wo.alloc (.cells #[] 5)) (.int .u8 45) 5
          rw [show (wo.alloc (.cells #[] 5)).heap.size=wo.heap.size+1 from by simp] at h
          exact h
        have HNW:Hid _:=hnews
        clear hnews
        go_wp2_with (at_builtin;go_must (refine wpList_append_own _ rfl (.tmp 47) (.tmp 48) 54 rfl wo.heap.size 5 i0 (.int .u8 0) 1 1 Tryz.underlying54 hi hz0 hz1 hz2 rfl (by decide) _ _ _ rfl (hown0.alloc _) ⟨wo.heap.size+1,0,none⟩ 1 1 [.int .u8 45] rfl rfl HNW.out (by intro u hu;simp at hu;subst hu;rfl) (by unfold maxLen;omega) (by omega) (by first | (simp;done) | (simp;omega)) ?_);intro v1 w1 hown1 hgrow1 hnil1)
        have hne1:v1≠.slice none 0 0:=fun h=>by
          have h2:Value.slice (some ⟨wo.heap.size,0,none⟩) 0 0=.slice none 0 0:=(hnil1.1 h).1
          cases h2
        have hgr1:((wo.alloc (.cells #[] 5)).alloc (Obj.cells #[.int .u8 45] 5)).grownBy w1 (some wo.heap.size):=hgrow1
        obtain ⟨g1,cap1,hv1⟩:=own_shape hown1 hne1
        have B1:Below wo.heap.size wo w1:=grown_below (bel2 wo _ _) (by first | (simp;done) | (simp;omega)) hgr1 (Nat.le_refl _)
        have HV1:Hid _:=hv1
        clear hnil1 hgrow1 hgr1 hne1 hv1
        go_loopw [9,10] (fun v i wr=>∃ (j q qc:Nat),j≤k∧i=.int .i64 ((k:Int) - 1 - j)∧v=.slice (some ⟨q,0,none⟩) (1+j) qc ∧
            wr.ownsRow wo.heap.size 5 1 v (1+j) (([45]++(backL N k).reverse.take j).map byteV)∧Below wo.heap.size wo wr) (fun _ i _=>(intOf i+1).toNat)
        case atStart=>exact ⟨0,_,_,Nat.zero_le _,by simp,HV1.out,by simpa [byteV] using hown1,B1⟩
        case round =>
          obtain ⟨j,q,qc,hj,rfl,rfl,hownq,hnq⟩:=hrel
          by_cases hjk:j < k
          · have hjl:j < (backL N k).reverse.length:=by rw [List.length_reverse,backL_len];exact hjk
            have hcell:wr.cell? ⟨g,k - 1 - j,none⟩=some (byteV ((backL N k).reverse[j])):=by
              rw [hnq.cell (p:=⟨g,k - 1 - j,none⟩) (own_lt hown)]
              exact back_cell hown j hjl
            have hidx:((k:Int) - 1 - j).toNat=k - 1 - j:=by omega
            have hcell':wr.cell? ⟨g,((k:Int) - 1 - j).toNat,none⟩=some (byteV ((backL N k).reverse[j])):=by rw [hidx];exact hcell
            have hi0:0≤(k:Int) - 1 - j:=by omega
            have hi1:(k:Int) - 1 - j < k:=by omega
            have hbq:=own_block hownq
            have htk:(backL N k).reverse.take (j+1)=(backL N k).reverse.take j++[(backL N k).reverse[j]]:=take_snoc' _ j hjl
            have HTK:Hid _:=htk
            generalize (backL N k).reverse[j]=bb at *
            unfold byteV at hcell hcell'
            clear htk hidx
            go_wp2_with (at_builtin;refine wpList_append_own _ rfl _ _ 54 rfl wo.heap.size 5 i0 (.int .u8 0) 1 1 Tryz.underlying54 hi hz0 hz1 hz2 rfl (by decide) _ _ _ rfl (hownq.alloc _) ⟨wr.heap.size,0,none⟩ 1 1 [.int .u8 (bb.toNat:Int)] rfl rfl (cell_one_new _ _ _) (by intro u hu;simp at hu;subst hu;rfl) (by unfold maxLen;omega) (by omega) (by have:=hnq.size;simp;omega) ?_;intro v2 w2 hown2 hgrow2 hnil2)
            have hne2:v2≠.slice none 0 0:=fun h=>by
              have h2:Value.slice (some ⟨q,0,none⟩) (1+j) qc=.slice none 0 0:=(hnil2.1 h).1
              cases h2
            have hgr2:(wr.alloc (Obj.cells #[.int .u8 (bb.toNat:Int)] 5)).grownBy w2 (some q):=hgrow2
            obtain ⟨q',qc',hv2⟩:=own_shape hown2 hne2
            have B3:Below wo.heap.size wo w2:=grown_below (hnq.alloc hnq.size _) (by have:=hnq.size;simp;omega) hgr2 hbq
            have hrow2:([45]++(backL N k).reverse.take j).map byteV++[Value.int IntKind.u8 (bb.toNat:Int)]=([45]++(backL N k).reverse.take (j+1)).map byteV:=by
              rw [HTK.out,← List.append_assoc,List.map_append (l₂:=[bb])];rfl
            rw [hrow2] at hown2
            clear hnil2 hgrow2 hgr2 hne2 hrow2 hcell hcell'
            go_roundw
            case rel=>first | exact ⟨j+1,q',qc',hjk,by go_num,hv2,hown2,B3⟩ | ((repeat apply Exists.intro);refine ⟨?_,rfl⟩;exact ⟨j+1,q',qc',hjk,by go_num,hv2,hown2,B3⟩)
            case measure=>simp [intOf];omega
          · obtain rfl:j=k:=by omega
            have hlen:([45]++(backL N j).reverse).length=1+j:=by simp [backL_len];try omega
            have hfin:[45]++(backL N j).reverse=Lib.itoa (val ah al):=by rw [EK.out,backL_rev];exact HIT.out
            rw [List.take_of_length_le (by rw [List.length_reverse,backL_len];exact Nat.le_refl _),hfin] at hownq
            rw [hfin] at hlen
            have hi1:((j:Int) - 1 - j) < 0:=by omega
            have hcv:(convert 54 9 (.slice (some ⟨q,0,none⟩) (1+j) qc)).run Tryz.prog wr=.ok (.string ⟨(Lib.itoa (val ah al)).toArray⟩) wr:=by
              rw [← hlen]
              exact run_convert_bytes_back wr 54 9 5 ⟨q,0,none⟩ qc (Lib.itoa (val ah al)) Tryz.underlying54 Tryz.underlying5 Tryz.underlying9 (fun i hi'=>by
                exact hownq.cells (g:=q) rfl i _ (by rw [List.getElem?_map,List.getElem?_eq_getElem hi'];rfl))
            clear hownq hfin hlen
            go_wp2
            go_ret
            exact ⟨rfl,BW.trans (hnq.mono BW.size)⟩
      · have hit:[]++Lib.decDigits N=Lib.itoa (val ah al):=by rw [itoa_pos' (fun h=>hn ((val_neg h1).1 h)),← HN.out];simp
        have HIT:Hid _:=hit
        clear hit
        go_wp2
        go_loopw [9,10] (fun v i wr=>∃ (j q qc:Nat),j≤k∧i=.int .i64 ((k:Int) - 1 - j)∧v=.slice (some ⟨q,0,none⟩) j qc ∧
            wr.ownsRow wo.heap.size 5 1 v j ((([]:List UInt8)++(backL N k).reverse.take j).map byteV)∧Below wo.heap.size wo wr) (fun _ i _=>(intOf i+1).toNat)
        case atStart=>exact ⟨0,_,_,Nat.zero_le _,by simp,rfl,by simpa using hown0,bel1 _ _⟩
        case round =>
          obtain ⟨j,q,qc,hj,rfl,rfl,hownq,hnq⟩:=hrel
          by_cases hjk:j < k
          · have hjl:j < (backL N k).reverse.length:=by rw [List.length_reverse,backL_len];exact hjk
            have hcell:wr.cell? ⟨g,k - 1 - j,none⟩=some (byteV ((backL N k).reverse[j])):=by
              rw [hnq.cell (p:=⟨g,k - 1 - j,none⟩) (own_lt hown)]
              exact back_cell hown j hjl
            have hidx:((k:Int) - 1 - j).toNat=k - 1 - j:=by omega
            have hcell':wr.cell? ⟨g,((k:Int) - 1 - j).toNat,none⟩=some (byteV ((backL N k).reverse[j])):=by rw [hidx];exact hcell
            have hi0:0≤(k:Int) - 1 - j:=by omega
            have hi1:(k:Int) - 1 - j < k:=by omega
            have hbq:=own_block hownq
            have htk:(backL N k).reverse.take (j+1)=(backL N k).reverse.take j++[(backL N k).reverse[j]]:=take_snoc' _ j hjl
            have HTK:Hid _:=htk
            generalize (backL N k).reverse[j]=bb at *
            unfold byteV at hcell hcell'
            clear htk hidx
            go_wp2_with (at_builtin;refine wpList_append_own _ rfl _ _ 54 rfl wo.heap.size 5 i0 (.int .u8 0) 1 1 Tryz.underlying54 hi hz0 hz1 hz2 rfl (by decide) _ _ _ rfl (hownq.alloc _) ⟨wr.heap.size,0,none⟩ 1 1 [.int .u8 (bb.toNat:Int)] rfl rfl (cell_one_new _ _ _) (by intro u hu;simp at hu;subst hu;rfl) (by unfold maxLen;omega) (by omega) (by have:=hnq.size;simp;omega) ?_;intro v2 w2 hown2 hgrow2 hnil2)
            have hne2:v2≠.slice none 0 0:=fun h=>by
              have h2:Value.slice (some ⟨q,0,none⟩) j qc=.slice none 0 0:=(hnil2.1 h).1
              cases h2
            have hgr2:(wr.alloc (Obj.cells #[.int .u8 (bb.toNat:Int)] 5)).grownBy w2 (some q):=hgrow2
            obtain ⟨q',qc',hv2⟩:=own_shape hown2 hne2
            have B3:Below wo.heap.size wo w2:=grown_below (hnq.alloc hnq.size _) (by have:=hnq.size;simp;omega) hgr2 hbq
            have hrow2:(([]:List UInt8)++(backL N k).reverse.take j).map byteV++[Value.int IntKind.u8 (bb.toNat:Int)]=(([]:List UInt8)++(backL N k).reverse.take (j+1)).map byteV:=by
              rw [HTK.out,← List.append_assoc,List.map_append (l₂:=[bb])];rfl
            rw [hrow2] at hown2
            clear hnil2 hgrow2 hgr2 hne2 hrow2 hcell hcell'
            go_roundw
            case rel=>first | exact ⟨j+1,q',qc',hjk,by go_num,hv2,hown2,B3⟩ | ((repeat apply Exists.intro);refine ⟨?_,rfl⟩;exact ⟨j+1,q',qc',hjk,by go_num,hv2,hown2,B3⟩)
            case measure=>simp [intOf];omega
          · obtain rfl:j=k:=by omega
            have hlen:(([]:List UInt8)++(backL N j).reverse).length=j:=by simp [backL_len];try omega
            have hfin:([]:List UInt8)++(backL N j).reverse=Lib.itoa (val ah al):=by rw [EK.out,backL_rev];exact HIT.out
            rw [List.take_of_length_le (by rw [List.length_reverse,backL_len];exact Nat.le_refl _),hfin] at hownq
            rw [hfin] at hlen
            have hi1:((j:Int) - 1 - j) < 0:=by omega
            have hcv:(convert 54 9 (.slice (some ⟨q,0,none⟩) j qc)).run Tryz.prog wr=.ok (.string ⟨(Lib.itoa (val ah al)).toArray⟩) wr:=by
              rw [← hlen]
              exact run_convert_bytes_back wr 54 9 5 ⟨q,0,none⟩ qc (Lib.itoa (val ah al)) Tryz.underlying54 Tryz.underlying5 Tryz.underlying9 (fun i hi'=>by
                exact hownq.cells (g:=q) rfl i _ (by rw [List.getElem?_map,List.getElem?_eq_getElem hi'];rfl))
            clear hownq hfin hlen
            go_wp2
            go_ret
            exact ⟨rfl,BW.trans (hnq.mono BW.size)⟩
end Go.Proofs.YtibahfopmjiffaaGreatDoor.Wi
