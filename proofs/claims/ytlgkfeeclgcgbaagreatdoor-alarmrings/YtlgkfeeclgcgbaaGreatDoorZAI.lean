/- ftoa64 AT A NORMAL FLOAT. Own work of the verifier. -/
import Derived.Test.YtlgkfeeclgcgbaaGreatDoorZAH
import Derived.Test.YtlgkfeeclgcgbaaGreatDoorZAG
set_option maxRecDepth 100000
set_option maxHeartbeats 4000000
namespace Go.Proofs.YtlgkfeeclgcgbaaGreatDoor.Rl
open Go.RowKit Go.Sort
theorem f64bits (x:Nat) (w:World):(callFunc 194 #[.float .f64 x]).run Tryz.prog w=.ok (.value (.int .u64 (x:Int))) w:=by
 rw [run_callFunc_extern Tryz.func194 (by kernel_rfl) (by kernel_rfl) (by kernel_rfl) (e:=Extern.MathFloatBits.float64bits) (by kernel_rfl)]
 rfl
def Trim (u k:Nat):Prop:=k≤Lib.nDigits u∧(∀ j (h:j < (Lib.decDigits u).length),k≤j→(Lib.decDigits u)[j]=48)∧(k=0∨∃ h:k - 1 < (Lib.decDigits u).length,(Lib.decDigits u)[k - 1]≠48)
theorem ftoaE_w (neg:Bool) (x E f M m u:Nat) (e p:Int) (B:Nat) (W0 w:World) (v:Value) (T:List Int) (hbuf:Buf B none W0 v [] w) (hGl:Glob w)
  (hneg:((x:Int) / 9223372036854775808 != 0)=neg) (hE:bits .and .i64 ((x:Int) / 4503599627370496) 2047=(E:Int)) (hf:bits .and .u64 (x:Int) 4503599627370495=(f:Int)) (hE0:1≤E) (hE1:E≤2046) (hx:x < 18446744073709551616)
  (hM:bits .or .u64 (f:Int) 4503599627370496=(M:Int)) (hM0:4503599627370496≤M) (hM1:M < 9007199254740992) (hl:Lib.bitLen M=53) (hm:(M:Int)*2048=(m:Int)) (he:(E:Int) - 1086=e) (hs:shortF m e=(u,p)) (hu0:1≤u) (hu1:u < 18446744073709551616) (hp0:-400≤p) (hp1:p≤400)
  (HC:Hid (∀ (g k:Nat) (W:World),Trim u k→Buf B (some (g,u)) W0 v [] W →
   Calls Tryz.prog 197 #[v,.bool neg,.slice (some ⟨g,0,none⟩) 32 32,.int .i64 ((Lib.nDigits u:Int)+p),.int .i64 (k:Int),.int .i64 (max ((k:Int) - 1) 0),.int .u8 101,.bool true] W fun r w'=>∃ v' o,r=.returned v'∧Buf B o W0 v' T w')) :
  Calls Tryz.prog 175 #[v,.float .f64 x,.int .u8 101,.int .i64 (-1)] w fun r w'=>∃ v' o,r=.returned v'∧Buf B o W0 v' T w':=by
 have hE2:((E:Int) == 2047)=false:=by rw [beq_eq_false_iff_ne];omega
 have hE3:((E:Int) == 0)=false:=by rw [beq_eq_false_iff_ne];omega
 have hM2:((M:Int) == 0)=false:=by rw [beq_eq_false_iff_ne];omega
 have HL:Hid (∀ W,Calls Tryz.prog 198 #[.int .u64 (M:Int)] W fun r w'=>r=.returned (.int .i64 53)∧w'=W):=by
  intro W
  have h:=Tryz.bits_Len64 (M:Int) W (by omega) (by omega)
  rw [Int.toNat_natCast,hl] at h
  exact h
 have HU:Hid _:=hs
 have hn20:Lib.nDigits u≤20:=Lib.nDigits_le20 u hu1
 clear hl hs
 go_enter Tryz.func175,Tryz.ntmps175
 go_wp2_with (first
  | simp only [f64bits]
  | (go_at_call 198;with_reducible refine (HL.out _).mono ?_;rintro r w ⟨rfl,rfl⟩)
  | fail)
 go_quiet (fail)
 go_wp2_with (first
  | (go_at_call 198;with_reducible refine (HL.out _).mono ?_;rintro r w ⟨rfl,rfl⟩)
  | fail)
 rw [show (E:Int)+-1023 - 11 - 52=e from by omega]
 obtain ⟨W1,hW1⟩:∃ W1,(w.drewN nq).alloc (.cells (Array.replicate 32 (.int .u8 0)) 297)=W1:=⟨_,rfl⟩
 have hb1:Below w.heap.size w W1:=by rw [← hW1];exact (Below.drewN' (Below.refl _ _) _).alloc (by rw [drewN_heap];exact Nat.le_refl _) _
 have hbuf1:=hbuf.step hb1
 have hG1:=hGl.below hb1
 have hob1:W1.heap[w.heap.size]? =some (.cells (Array.replicate 32 (.int .u8 0)) 297):=by
  rw [← hW1];have:=(MapKept.heap_alloc (w.drewN nq) (.cells (Array.replicate 32 (.int .u8 0)) 297)).1;rw [drewN_heap] at this;exact this
 have hz1:w.heap.size < W1.heap.size:=by
  rcases Nat.lt_or_ge w.heap.size W1.heap.size with h | h
  ·exact h
  ·rw [Array.getElem?_eq_none h] at hob1;cases hob1
 rw [show (w.drewN nq).alloc (.cells #[.int .u8 0,.int .u8 0,.int .u8 0,.int .u8 0,.int .u8 0,.int .u8 0,.int .u8 0,.int .u8 0,.int .u8 0,.int .u8 0,.int .u8 0,.int .u8 0,.int .u8 0,.int .u8 0,.int .u8 0,.int .u8 0,.int .u8 0,.int .u8 0,.int .u8 0,.int .u8 0,.int .u8 0,.int .u8 0,.int .u8 0,.int .u8 0,.int .u8 0,.int .u8 0,.int .u8 0,.int .u8 0,.int .u8 0,.int .u8 0,.int .u8 0,.int .u8 0] 297)=W1 from hW1]
 clear hW1
 have hB0:B≤w.heap.size:=hbuf.size
 refine (short_any m e (by omega) (by omega) (by omega) (by omega) (by omega) (by omega) W1 hG1.pow.lt hG1.pow).mono ?_
 rintro r w2 ⟨rfl,hb2⟩
 rw [HU.out]
 have hbuf2:=hbuf1.step hb2
 have hG2:=hG1.below hb2
 have hob2:w2.heap[w.heap.size]? =some (.cells (Array.replicate 32 (.int .u8 0)) 297):=by rw [hb2.block _ hz1,hob1]
 clear hb2 hbuf1 hG1 hob1 hb1 HU HL
 go_wp2_with fail
 go_region_with (first
  | (go_at_call 201;refine (Tryz.internal_strconv_numDigits u hu0 hu1 _ (hG2.below (Below.drewN' (Below.refl _ _) 1)).tab).mono ?_;rintro r wn ⟨rfl,rfl⟩)
  | (go_at_call 200;refine (setDigits_any w.heap.size u p (w2.drewN 1) hob2 hu1 (by omega) (by omega)).mono ?_;rintro r w3 ⟨k,hk,hz,hnz,rfl,hD,hgr,hsz⟩))
 have hbuf3:Buf B (some (w.heap.size,u)) W0 v [] w3:=(hbuf2.step (Below.drewN' (Below.refl _ _) 1)).digits hob2 hB0 hgr hD
 have HT:Hid (Trim u k):=⟨hk,hz,hnz⟩
 have hk20:k≤20:=by omega
 clear hz hnz hD hgr hsz hbuf2 hG2 hob2
 go_wp2_with fail
 refine (HC.out _ k w3 HT.out hbuf3).mono ?_
 rintro r w4 ⟨v',o,rfl,hb4⟩
 go_wp2
 go_ret
 exact ⟨_,_,rfl,hb4⟩
theorem ftoaF_w (neg:Bool) (x E f M m u:Nat) (e p:Int) (B:Nat) (W0 w:World) (v:Value) (T:List Int) (hbuf:Buf B none W0 v [] w) (hGl:Glob w)
  (hneg:((x:Int) / 9223372036854775808 != 0)=neg) (hE:bits .and .i64 ((x:Int) / 4503599627370496) 2047=(E:Int)) (hf:bits .and .u64 (x:Int) 4503599627370495=(f:Int)) (hE0:1≤E) (hE1:E≤2046) (hx:x < 18446744073709551616)
  (hM:bits .or .u64 (f:Int) 4503599627370496=(M:Int)) (hM0:4503599627370496≤M) (hM1:M < 9007199254740992) (hl:Lib.bitLen M=53) (hm:(M:Int)*2048=(m:Int)) (he:(E:Int) - 1086=e) (hs:shortF m e=(u,p)) (hu0:1≤u) (hu1:u < 18446744073709551616) (hp0:-400≤p) (hp1:p≤400)
  (HC:Hid (∀ (g k:Nat) (W:World),Trim u k→Buf B (some (g,u)) W0 v [] W →
   Calls Tryz.prog 197 #[v,.bool neg,.slice (some ⟨g,0,none⟩) 32 32,.int .i64 ((Lib.nDigits u:Int)+p),.int .i64 (k:Int),.int .i64 (max ((k:Int) - ((Lib.nDigits u:Int)+p)) 0),.int .u8 102,.bool true] W fun r w'=>∃ v' o,r=.returned v'∧Buf B o W0 v' T w')) :
  Calls Tryz.prog 175 #[v,.float .f64 x,.int .u8 102,.int .i64 (-1)] w fun r w'=>∃ v' o,r=.returned v'∧Buf B o W0 v' T w':=by
 have hE2:((E:Int) == 2047)=false:=by rw [beq_eq_false_iff_ne];omega
 have hE3:((E:Int) == 0)=false:=by rw [beq_eq_false_iff_ne];omega
 have hM2:((M:Int) == 0)=false:=by rw [beq_eq_false_iff_ne];omega
 have HL:Hid (∀ W,Calls Tryz.prog 198 #[.int .u64 (M:Int)] W fun r w'=>r=.returned (.int .i64 53)∧w'=W):=by
  intro W
  have h:=Tryz.bits_Len64 (M:Int) W (by omega) (by omega)
  rw [Int.toNat_natCast,hl] at h
  exact h
 have HU:Hid _:=hs
 have hn20:Lib.nDigits u≤20:=Lib.nDigits_le20 u hu1
 clear hl hs
 go_enter Tryz.func175,Tryz.ntmps175
 go_wp2_with (first
  | simp only [f64bits]
  | (go_at_call 198;with_reducible refine (HL.out _).mono ?_;rintro r w ⟨rfl,rfl⟩)
  | fail)
 go_quiet (fail)
 go_wp2_with (first
  | (go_at_call 198;with_reducible refine (HL.out _).mono ?_;rintro r w ⟨rfl,rfl⟩)
  | fail)
 rw [show (E:Int)+-1023 - 11 - 52=e from by omega]
 obtain ⟨W1,hW1⟩:∃ W1,(w.drewN nq).alloc (.cells (Array.replicate 32 (.int .u8 0)) 297)=W1:=⟨_,rfl⟩
 have hb1:Below w.heap.size w W1:=by rw [← hW1];exact (Below.drewN' (Below.refl _ _) _).alloc (by rw [drewN_heap];exact Nat.le_refl _) _
 have hbuf1:=hbuf.step hb1
 have hG1:=hGl.below hb1
 have hob1:W1.heap[w.heap.size]? =some (.cells (Array.replicate 32 (.int .u8 0)) 297):=by
  rw [← hW1];have:=(MapKept.heap_alloc (w.drewN nq) (.cells (Array.replicate 32 (.int .u8 0)) 297)).1;rw [drewN_heap] at this;exact this
 have hz1:w.heap.size < W1.heap.size:=by
  rcases Nat.lt_or_ge w.heap.size W1.heap.size with h | h
  ·exact h
  ·rw [Array.getElem?_eq_none h] at hob1;cases hob1
 rw [show (w.drewN nq).alloc (.cells #[.int .u8 0,.int .u8 0,.int .u8 0,.int .u8 0,.int .u8 0,.int .u8 0,.int .u8 0,.int .u8 0,.int .u8 0,.int .u8 0,.int .u8 0,.int .u8 0,.int .u8 0,.int .u8 0,.int .u8 0,.int .u8 0,.int .u8 0,.int .u8 0,.int .u8 0,.int .u8 0,.int .u8 0,.int .u8 0,.int .u8 0,.int .u8 0,.int .u8 0,.int .u8 0,.int .u8 0,.int .u8 0,.int .u8 0,.int .u8 0,.int .u8 0,.int .u8 0] 297)=W1 from hW1]
 clear hW1
 have hB0:B≤w.heap.size:=hbuf.size
 refine (short_any m e (by omega) (by omega) (by omega) (by omega) (by omega) (by omega) W1 hG1.pow.lt hG1.pow).mono ?_
 rintro r w2 ⟨rfl,hb2⟩
 rw [HU.out]
 have hbuf2:=hbuf1.step hb2
 have hG2:=hG1.below hb2
 have hob2:w2.heap[w.heap.size]? =some (.cells (Array.replicate 32 (.int .u8 0)) 297):=by rw [hb2.block _ hz1,hob1]
 clear hb2 hbuf1 hG1 hob1 hb1 HU HL
 go_wp2_with fail
 go_region_with (first
  | (go_at_call 201;refine (Tryz.internal_strconv_numDigits u hu0 hu1 _ (hG2.below (Below.drewN' (Below.refl _ _) 1)).tab).mono ?_;rintro r wn ⟨rfl,rfl⟩)
  | (go_at_call 200;refine (setDigits_any w.heap.size u p (w2.drewN 1) hob2 hu1 (by omega) (by omega)).mono ?_;rintro r w3 ⟨k,hk,hz,hnz,rfl,hD,hgr,hsz⟩))
 have hbuf3:Buf B (some (w.heap.size,u)) W0 v [] w3:=(hbuf2.step (Below.drewN' (Below.refl _ _) 1)).digits hob2 hB0 hgr hD
 have HT:Hid (Trim u k):=⟨hk,hz,hnz⟩
 have hk20:k≤20:=by omega
 clear hz hnz hD hgr hsz hbuf2 hG2 hob2
 go_wp2_with fail
 refine (HC.out _ k w3 HT.out hbuf3).mono ?_
 rintro r w4 ⟨v',o,rfl,hb4⟩
 go_wp2
 go_ret
 exact ⟨_,_,rfl,hb4⟩
end Go.Proofs.YtlgkfeeclgcgbaaGreatDoor.Rl
/- THE TEXTS OF 0 AND OF LEAST FLOATS, as the library writes them. Own work of the verifier. -/
set_option maxRecDepth 100000
set_option maxHeartbeats 4000000
namespace Go.Proofs.YtlgkfeeclgcgbaaGreatDoor.Rl
open Go.RowKit Go.Sort
theorem fmtF_zero (neg:Bool) (B:Nat) (W0 w:World) (v:Value) (hbuf:Buf B none W0 v [] w) :
  Calls Tryz.prog 197 #[v,.bool neg,.slice none 0 0,.int .i64 0,.int .i64 0,.int .i64 (-1),.int .u8 102,.bool true] w fun r w'=>∃ v',r=.returned v'∧Buf B none W0 v' (if neg then [45,48] else [48]) w':=by
 obtain ⟨i0,hi,hz0,hz1,hz2⟩:=info_parts infoByte
 cases neg
 all_goals
  go_enter Tryz.func197,Tryz.ntmps197
  go_wp2_with (first
   | (at_builtin;refine wpList_append_own _ rfl _ _ 146 rfl B 5 i0 (.int .u8 0) 1 1 Tryz.underlying146 hi hz0 hz1 hz2 rfl (by decide) _ _ _ rfl (hbuf.own.alloc _) ⟨_,0,none⟩ 1 1 [_] rfl rfl (cell_one_new _ _ _) (by intro u hu;simp at hu;subst hu;rfl) (by have:=hbuf.len;unfold maxLen;omega) (by have:=hbuf.len;omega) (by have:=hbuf.size;simp;omega) ?_;intro v w hown hgrow hnil;have hbuf:=hbuf.push _ hown hgrow hnil (by simp);clear hown hgrow hnil)
   | fail)
  go_ret
  exact ⟨_,rfl,hbuf⟩
theorem ftoaF_zero (neg:Bool) (x:Nat) (B:Nat) (W0 w:World) (v:Value) (hbuf:Buf B none W0 v [] w)
  (hneg:((x:Int) / 9223372036854775808 != 0)=neg) (hE:bits .and .i64 ((x:Int) / 4503599627370496) 2047=0) (hf:bits .and .u64 (x:Int) 4503599627370495=0) (hx:x < 18446744073709551616) :
  Calls Tryz.prog 175 #[v,.float .f64 x,.int .u8 102,.int .i64 (-1)] w fun r w'=>∃ v' o,r=.returned v'∧Buf B o W0 v' (if neg then [45,48] else [48]) w':=by
 obtain ⟨T,HT⟩:∃ T:List Int,Hid ((if neg then [45,48] else [48])=T):=⟨_,rfl⟩
 have HZ:Hid (∀ W v,Buf B none W0 v [] W→Calls Tryz.prog 197 #[v,.bool neg,.slice none 0 0,.int .i64 0,.int .i64 0,.int .i64 (-1),.int .u8 102,.bool true] W fun r w'=>∃ v',r=.returned v'∧Buf B none W0 v' T w'):=fun W v h=>by rw [← HT.out];exact fmtF_zero neg B W0 W v h
 rw [HT.out]
 go_enter Tryz.func175,Tryz.ntmps175
 go_wp2_with (first
  | simp only [f64bits]
  | fail)
 go_quiet (fail)
 go_wp2_with fail
 refine (HZ.out _ v (hbuf.step (Below.drewN' (Below.refl _ _) _))).mono ?_
 rintro r w4 ⟨v',rfl,hb4⟩
 go_wp2
 go_ret
 exact ⟨_,_,rfl,hb4⟩
theorem ftoaE_sub (neg:Bool) (x f m u z:Nat) (e p:Int) (B:Nat) (W0 w:World) (v:Value) (T:List Int) (hbuf:Buf B none W0 v [] w) (hGl:Glob w)
  (hneg:((x:Int) / 9223372036854775808 != 0)=neg) (hE:bits .and .i64 ((x:Int) / 4503599627370496) 2047=0) (hf:bits .and .u64 (x:Int) 4503599627370495=(f:Int)) (hf0:1≤f) (hf1:f < 4503599627370496) (hx:x < 18446744073709551616)
  (hl:64 - (Lib.bitLen f:Int)=(z:Int)) (hz0:12≤z) (hz1:z≤63) (hm:(f:Int)*2 ^ z=(m:Int)) (hm0:9223372036854775808≤m) (hm1:m < 18446744073709551616) (hmz:m % 2 ^ z=0) (he:-1074 - (z:Int)=e) (hs:shortF m e=(u,p)) (hu0:1≤u) (hu1:u < 18446744073709551616) (hp0:-400≤p) (hp1:p≤400)
  (HC:Hid (∀ (g k:Nat) (W:World),Trim u k→Buf B (some (g,u)) W0 v [] W →
   Calls Tryz.prog 197 #[v,.bool neg,.slice (some ⟨g,0,none⟩) 32 32,.int .i64 ((Lib.nDigits u:Int)+p),.int .i64 (k:Int),.int .i64 (max ((k:Int) - 1) 0),.int .u8 101,.bool true] W fun r w'=>∃ v' o,r=.returned v'∧Buf B o W0 v' T w')) :
  Calls Tryz.prog 175 #[v,.float .f64 x,.int .u8 101,.int .i64 (-1)] w fun r w'=>∃ v' o,r=.returned v'∧Buf B o W0 v' T w':=by
 have hM2:((f:Int) == 0)=false:=by rw [beq_eq_false_iff_ne];omega
 have HL:Hid (∀ W,Calls Tryz.prog 198 #[.int .u64 (f:Int)] W fun r w'=>r=.returned (.int .i64 (Lib.bitLen f:Int))∧w'=W):=by
  intro W
  have h:=Tryz.bits_Len64 (f:Int) W (by omega) (by omega)
  rw [Int.toNat_natCast] at h
  exact h
 have HU:Hid _:=hs
 have hn20:Lib.nDigits u≤20:=Lib.nDigits_le20 u hu1
 have HMZ:Hid _:=hmz
 clear hs hmz
 generalize (Lib.bitLen f:Int)=bl at *
 go_enter Tryz.func175,Tryz.ntmps175
 go_wp2_with (first
  | simp only [f64bits]
  | (go_at_call 198;with_reducible refine (HL.out _).mono ?_;rintro r w ⟨rfl,rfl⟩)
  | fail)
 go_quiet (fail)
 go_wp2_with (first
  | (go_at_call 198;with_reducible refine (HL.out _).mono ?_;rintro r w ⟨rfl,rfl⟩)
  | fail)
 rw [show -1022 - (z:Int) - 52=e from by omega]
 obtain ⟨W1,hW1⟩:∃ W1,(w.drewN nq).alloc (.cells (Array.replicate 32 (.int .u8 0)) 297)=W1:=⟨_,rfl⟩
 have hb1:Below w.heap.size w W1:=by rw [← hW1];exact (Below.drewN' (Below.refl _ _) _).alloc (by rw [drewN_heap];exact Nat.le_refl _) _
 have hbuf1:=hbuf.step hb1
 have hG1:=hGl.below hb1
 have hob1:W1.heap[w.heap.size]? =some (.cells (Array.replicate 32 (.int .u8 0)) 297):=by
  rw [← hW1];have:=(MapKept.heap_alloc (w.drewN nq) (.cells (Array.replicate 32 (.int .u8 0)) 297)).1;rw [drewN_heap] at this;exact this
 have hz1:w.heap.size < W1.heap.size:=by
  rcases Nat.lt_or_ge w.heap.size W1.heap.size with h | h
  ·exact h
  ·rw [Array.getElem?_eq_none h] at hob1;cases hob1
 rw [show (w.drewN nq).alloc (.cells #[.int .u8 0,.int .u8 0,.int .u8 0,.int .u8 0,.int .u8 0,.int .u8 0,.int .u8 0,.int .u8 0,.int .u8 0,.int .u8 0,.int .u8 0,.int .u8 0,.int .u8 0,.int .u8 0,.int .u8 0,.int .u8 0,.int .u8 0,.int .u8 0,.int .u8 0,.int .u8 0,.int .u8 0,.int .u8 0,.int .u8 0,.int .u8 0,.int .u8 0,.int .u8 0,.int .u8 0,.int .u8 0,.int .u8 0,.int .u8 0,.int .u8 0,.int .u8 0] 297)=W1 from hW1]
 clear hW1
 have hB0:B≤w.heap.size:=hbuf.size
 refine (short_any m e hm0 hm1 (by omega) (fun _=>by rw [show (-1074 - e).toNat=z from by omega];exact HMZ.out) (by omega) (by omega) W1 hG1.pow.lt hG1.pow).mono ?_
 rintro r w2 ⟨rfl,hb2⟩
 rw [HU.out]
 have hbuf2:=hbuf1.step hb2
 have hG2:=hG1.below hb2
 have hob2:w2.heap[w.heap.size]? =some (.cells (Array.replicate 32 (.int .u8 0)) 297):=by rw [hb2.block _ hz1,hob1]
 clear hb2 hbuf1 hG1 hob1 hb1 HU HL
 go_wp2_with fail
 go_region_with (first
  | (go_at_call 201;refine (Tryz.internal_strconv_numDigits u hu0 hu1 _ (hG2.below (Below.drewN' (Below.refl _ _) 1)).tab).mono ?_;rintro r wn ⟨rfl,rfl⟩)
  | (go_at_call 200;refine (setDigits_any w.heap.size u p (w2.drewN 1) hob2 hu1 (by omega) (by omega)).mono ?_;rintro r w3 ⟨k,hk,hz,hnz,rfl,hD,hgr,hsz⟩))
 have hbuf3:Buf B (some (w.heap.size,u)) W0 v [] w3:=(hbuf2.step (Below.drewN' (Below.refl _ _) 1)).digits hob2 hB0 hgr hD
 have HT:Hid (Trim u k):=⟨hk,hz,hnz⟩
 have hk20:k≤20:=by omega
 clear hz hnz hD hgr hsz hbuf2 hG2 hob2
 go_wp2_with fail
 refine (HC.out _ k w3 HT.out hbuf3).mono ?_
 rintro r w4 ⟨v',o,rfl,hb4⟩
 go_wp2
 go_ret
 exact ⟨_,_,rfl,hb4⟩
end Go.Proofs.YtlgkfeeclgcgbaaGreatDoor.Rl
/- WHAT THE SHORTEST DIGITS LIE BETWEEN. Own work of the verifier. -/
namespace Go.Proofs.YtlgkfeeclgcgbaaGreatDoor.Rl
open Go.RowKit
theorem tab_top:∀ i,i < 696→9223372036854775808≤tabHi i:=by
 have h:(List.range 696).all (fun i=>decide (9223372036854775808≤tabHi i))=true:=by decide +kernel
 intro i hi
 have:=List.all_eq_true.1 h i (List.mem_range.2 hi)
 simpa using this
def sOf (e p:Int):Nat:=((-(e+l2 p+3)) % 64).toNat
def okE (e p:Int):Bool:=decide (5≤sOf e p) && decide (sOf e p≤58) && decide (-348≤p) && decide (p≤347)
theorem ok_norm (e:Int) (h0:-1085≤e) (h1:e≤1000):okE e (-(l10 (e+11)))=true∧okE e (-(skw (e+11)))=true:=by
 have h:(List.range 2086).all (fun i=>okE ((i:Int) - 1085) (-(l10 ((i:Int) - 1085+11))) && okE ((i:Int) - 1085) (-(skw ((i:Int) - 1085+11))))=true:=by decide +kernel
 have:=List.all_eq_true.1 h (e+1085).toNat (List.mem_range.2 (by omega))
 rw [show (((e+1085).toNat:Nat):Int) - 1085=e from by omega] at this
 simpa using this
theorem ok_sub (e:Int) (h0:-1137≤e) (h1:e≤-1086):okE e (-(l10 (-1074)))=true:=by
 have h:(List.range 52).all (fun i=>okE ((i:Int) - 1137) (-(l10 (-1074))))=true:=by decide +kernel
 have:=List.all_eq_true.1 h (e+1137).toNat (List.mem_range.2 (by omega))
 rw [show (((e+1137).toNat:Nat):Int) - 1137=e from by omega] at this
 exact this
theorem or_le (a:Nat) (b:Bool):a≤a ||| b2n b∧a ||| b2n b≤a+1:=by
 refine ⟨Nat.left_le_or,?_⟩
 cases b
 ·show a ||| 0≤a+1
  simp
 ·show a ||| 1≤a+1
  have:a ||| 1=a / 2*2+1:=by
   apply Nat.eq_of_testBit_eq
   intro i
   rw [Nat.testBit_or]
   cases i with
   | zero=>simp [Nat.testBit_zero]
   | succ i =>
    rw [Nat.testBit_succ,Nat.testBit_succ,Nat.testBit_succ,show (a / 2*2+1) / 2=a / 2 from by omega,show 1 / 2=0 from rfl]
    simp
  omega
theorem usc_between (x hi lo s:Nat) (hx0:4611686018427387904≤x) (hx:x < 18446744073709551616) (h0:9223372036854775808≤hi) (hhi:hi < 18446744073709551616) (hs0:5≤s) (hs:s≤58) :
  7≤usc x hi lo s∧usc x hi lo s≤576460752303423489:=by
 have hA0:2305843009213693952≤x*hi / 18446744073709551616:=by
  rw [Nat.le_div_iff_mul_le (by decide)]
  exact Nat.le_trans (by decide) (Nat.mul_le_mul hx0 h0)
 have hA1:x*hi / 18446744073709551616 < 18446744073709551616:=Nat.div_lt_of_lt_mul (Nat.mul_lt_mul'' hx hhi)
 have p0:2 ^ s≤2 ^ 58:=Nat.pow_le_pow_right (by decide) hs
 have p1:2 ^ 5≤2 ^ s:=Nat.pow_le_pow_right (by decide) hs0
 have key:∀ H,2305843009213693951≤H→H < 18446744073709551616→7≤H / 2 ^ s∧H / 2 ^ s≤576460752303423488:=by
  intro H a b
  constructor
  ·rw [Nat.le_div_iff_mul_le (by omega)]
   have:7*2 ^ s≤7*2 ^ 58:=Nat.mul_le_mul_left _ p0
   omega
  ·have:H / 2 ^ s≤H / 2 ^ 5:=Nat.div_le_div_left p1 (by decide)
   omega
 unfold usc
 generalize x*hi / 18446744073709551616=A at *
 split
 ·have hb:=b2n_le (decide (x*hi % 18446744073709551616 < x*lo / 18446744073709551616))
  generalize b2n (decide (x*hi % 18446744073709551616 < x*lo / 18446744073709551616))=b at *
  have hH:(A+18446744073709551616 - b) % 18446744073709551616=A - b:=by omega
  rw [hH]
  obtain ⟨k1,k2⟩:=key (A - b) (by omega) (by omega)
  obtain ⟨o1,o2⟩:=or_le ((A - b) / 2 ^ s) (decide (1 < (x*hi % 18446744073709551616+18446744073709551616 - x*lo / 18446744073709551616) % 18446744073709551616))
  omega
 ·obtain ⟨k1,k2⟩:=key A (by omega) hA1
  obtain ⟨o1,o2⟩:=or_le (A / 2 ^ s) true
  have:b2n true=1:=rfl
  rw [this] at o1 o2
  omega
theorem scl_between (x:Nat) (e p:Int) (hx0:4611686018427387904≤x) (hx:x < 18446744073709551616) (h:okE e p=true):7≤scl x e p∧scl x e p≤576460752303423489:=by
 unfold okE at h
 simp only [Bool.and_eq_true,decide_eq_true_eq] at h
 obtain ⟨⟨⟨a,b⟩,c⟩,d⟩:=h
 exact usc_between _ _ _ _ hx0 hx (tab_top _ (by omega)) (tab_fit _ (by omega)).1 a b
theorem pick_between (m mn mx odd:Nat) (e p:Int) (hm0:4611686018427387904≤m) (hm1:m < 18446744073709551616) (hn0:4611686018427387904≤mn) (hn1:mn < 18446744073709551616) (hx0:4611686018427387904≤mx) (hx1:mx < 18446744073709551616) (ho:odd≤1) (h:okE e p=true) :
  1≤(pick m mn mx odd e p).1∧(pick m mn mx odd e p).1 < 288230376151711744∧-350≤(pick m mn mx odd e p).2∧(pick m mn mx odd e p).2≤350:=by
 obtain ⟨a1,a2⟩:=scl_between m e p hm0 hm1 h
 obtain ⟨b1,b2⟩:=scl_between mn e p hn0 hn1 h
 obtain ⟨c1,c2⟩:=scl_between mx e p hx0 hx1 h
 unfold okE at h
 simp only [Bool.and_eq_true,decide_eq_true_eq] at h
 obtain ⟨⟨⟨_,_⟩,p0⟩,p1⟩:=h
 have dm:1≤dMid (scl m e p)∧dMid (scl m e p) < 288230376151711744:=by
  unfold dMid
  have:scl m e p / 4 % 2 < 2:=Nat.mod_lt _ (by decide)
  generalize scl m e p / 4 % 2=q at *
  omega
 have dl:2≤dLow (scl mn e p) odd∧dLow (scl mn e p) odd < 288230376151711744:=by unfold dLow;omega
 have dh:dHigh (scl mx e p) odd < 288230376151711744:=by unfold dHigh;omega
 unfold pick
 generalize dMid (scl m e p)=A at *
 generalize dLow (scl mn e p) odd=L at *
 generalize dHigh (scl mx e p) odd=R at *
 split
 ·refine ⟨?_,?_,?_,?_⟩ <;> simp only <;> omega
 ·split
  ·refine ⟨?_,?_,?_,?_⟩ <;> simp only <;> omega
  ·refine ⟨?_,?_,?_,?_⟩ <;> simp only <;> omega
theorem short_between (m:Nat) (e:Int) (hm0:9223372036854775808≤m) (hm1:m < 18446744073709551616) (hn:-1085≤e→m≤18446744073709549568) (hd:e < -1085→m+2 ^ (-1075 - e).toNat < 18446744073709551616) (he0:-1137≤e) (he1:e≤1000) :
  1≤(shortF m e).1∧(shortF m e).1 < 288230376151711744∧-350≤(shortF m e).2∧(shortF m e).2≤350:=by
 unfold shortF
 split
 ·rename_i h
  exact pick_between _ _ _ _ _ _ (by omega) hm1 (by omega) (by omega) (by omega) (by omega) (by decide) (ok_norm e (by omega) he1).2
 ·split
  ·rename_i h
   have:=hn h
   exact pick_between _ _ _ _ _ _ (by omega) hm1 (by omega) (by omega) (by omega) (by omega) (by omega) (ok_norm e h he1).1
  ·rename_i h
   have h1:=hd (by omega)
   have h2:2 ^ (-1075 - e).toNat≤4611686018427387904:=by
    have:2 ^ (-1075 - e).toNat≤2 ^ 62:=Nat.pow_le_pow_right (by decide) (by omega)
    exact this
   generalize 2 ^ (-1075 - e).toNat=T at *
   exact pick_between _ _ _ _ _ _ (by omega) hm1 (by omega) (by omega) (by omega) h1 (by omega) (ok_sub e he0 (by omega))
end Go.Proofs.YtlgkfeeclgcgbaaGreatDoor.Rl
/- ftoa64 WITH AN EXPONENT, at every finite float but 0. Own work of the verifier. -/
namespace Go.Proofs.YtlgkfeeclgcgbaaGreatDoor.Rl
open Go.RowKit Go.Sort
theorem ex_field (x:Nat) (h:x < 18446744073709551616):bits .and .i64 ((x:Int) / 4503599627370496) 2047=((x / 4503599627370496 % 2048:Nat):Int):=by
 have e:((x:Int) / 4503599627370496)=((x / 4503599627370496:Nat):Int):=by omega
 rw [e]
 show IntKind.i64.wrap ((BitVec.ofInt 64 ((x / 4503599627370496:Nat):Int) &&& BitVec.ofInt 64 ((2047:Nat):Int)).toNat:Int)=_
 rw [BitVec.toNat_and,ofInt_u64 _ (by omega),ofInt_u64 _ (by decide),show (2047:Nat)=2 ^ 11 - 1 from by decide,Nat.and_two_pow_sub_one_eq_mod,IntKind.wrap_i64]
 omega
theorem fr_field (x:Nat) (h:x < 18446744073709551616):bits .and .u64 (x:Int) 4503599627370495=((x % 4503599627370496:Nat):Int):=by
 have:=u64_and_nat x 4503599627370495 h (by decide)
 rw [show ((4503599627370495:Nat):Int)=4503599627370495 from rfl] at this
 rw [this,show (4503599627370495:Nat)=2 ^ 52 - 1 from by decide,Nat.and_two_pow_sub_one_eq_mod]
theorem hid_bit (f:Nat) (h:f < 4503599627370496):bits .or .u64 (f:Int) 4503599627370496=((4503599627370496+f:Nat):Int):=by
 have:=u64_or_nat f 4503599627370496 (by omega) (by decide)
 rw [show ((4503599627370496:Nat):Int)=4503599627370496 from rfl] at this
 rw [this,Nat.or_comm,nat_join 52 _ _ (by decide) (by rw [show (2:Nat) ^ 52=4503599627370496 from by decide];exact h)]
theorem neg_bit (x:Nat) (h:x < 18446744073709551616):((x:Int) / 9223372036854775808 != 0)=decide (9223372036854775808≤x):=by
 by_cases k:9223372036854775808≤x
 ·rw [decide_eq_true k,bne_iff_ne];omega
 ·rw [decide_eq_false k,bne_eq_false_iff_eq];omega
theorem len_bounds (x:Nat) (h:x < 18446744073709551616) (h0:x≠0):1≤Lib.bitLen x∧2 ^ (Lib.bitLen x - 1)≤x∧x < 2 ^ Lib.bitLen x:=Lib.bitLenAux_bounds 64 x h h0
theorem len53 (M:Nat) (h0:4503599627370496≤M) (h1:M < 9007199254740992):Lib.bitLen M=53:=by
 obtain ⟨a,b,c⟩:=len_bounds M (by omega) (by omega)
 have k1:Lib.bitLen M - 1 < 53:=(Nat.pow_lt_pow_iff_right (by decide:1 < 2)).1 (Nat.lt_of_le_of_lt b (by rw [show (2:Nat) ^ 53=9007199254740992 from by decide];exact h1))
 have k2:52 < Lib.bitLen M:=(Nat.pow_lt_pow_iff_right (by decide:1 < 2)).1 (Nat.lt_of_le_of_lt (by rw [show (2:Nat) ^ 52=4503599627370496 from by decide];exact h0) c)
 omega
theorem trim_inj {u k l:Nat} (h:Trim u k) (h':Trim u l):k=l:=by
 obtain ⟨a1,a2,a3⟩:=h
 obtain ⟨b1,b2,b3⟩:=h'
 have hl:=Lib.decDigits_length u
 rcases Nat.lt_trichotomy k l with c | c | c
 ·rcases b3 with b3 | ⟨hb,b3⟩
  ·omega
  ·exact absurd (a2 (l - 1) hb (by omega)) b3
 ·exact c
 ·rcases a3 with a3 | ⟨ha,a3⟩
  ·omega
  ·exact absurd (b2 (k - 1) ha (by omega)) a3
noncomputable def trimLen (u:Nat):Nat:=@Classical.epsilon Nat ⟨0⟩ (Trim u)
theorem trim_len {u k:Nat} (h:Trim u k):k=trimLen u:=trim_inj h (Classical.epsilon_spec (p:=Trim u) ⟨k,h⟩)
theorem le_of_lt_nDigits:∀ (k u:Nat),1≤k→k < Lib.nDigits u→10 ^ k≤u
 | 0,_,h,_=>by omega
 | 1,u,_,h=>by
  by_cases hu:u < 10
  ·rw [Lib.nDigits_small hu] at h;omega
  ·simp;omega
 | k+2,u,_,h=>by
  by_cases hu:u < 10
  ·rw [Lib.nDigits_small hu] at h;omega
  ·rw [Lib.nDigits_big hu] at h
   have:=le_of_lt_nDigits (k+1) (u / 10) (by omega) (by omega)
   rw [Nat.pow_succ]
   omega
theorem first_digit (u:Nat) (hu:1≤u) (h:0 < (Lib.decDigits u).length):(Lib.decDigits u)[0]≠48:=by
 have hn:=Lib.nDigits_pos u
 have e:(Lib.decDigits u)[0]=Lib.dg u (Lib.nDigits u - 1):=by
  have:(Lib.decDigits u)[0]? =some (Lib.dg u (Lib.nDigits u - 1)):=by
   rw [Lib.decDigits_eq,List.getElem?_map,List.getElem?_range (by omega)];rfl
  rw [List.getElem?_eq_getElem h] at this
  exact Option.some.inj this
 rw [e]
 have hlt:=Lib.lt_pow_nDigits u
 have hp:0 < 10 ^ (Lib.nDigits u - 1):=Nat.pow_pos (by decide)
 have hge:10 ^ (Lib.nDigits u - 1)≤u:=by
  rcases Nat.eq_or_lt_of_le hn with k | k
  ·rw [← k];simpa using hu
  ·exact le_of_lt_nDigits _ u (by omega) (by omega)
 have q1:1≤u / 10 ^ (Lib.nDigits u - 1):=(Nat.le_div_iff_mul_le hp).2 (by omega)
 have q2:u / 10 ^ (Lib.nDigits u - 1) < 10:=by
  rw [Nat.div_lt_iff_lt_mul hp,Nat.mul_comm,← Nat.pow_succ,show (Lib.nDigits u - 1).succ=Lib.nDigits u from by omega];exact hlt
 unfold Lib.dg
 generalize u / 10 ^ (Lib.nDigits u - 1)=q at *
 intro hh
 have:=congrArg UInt8.toNat hh
 rw [UInt8.toNat_ofNat'] at this
 have h48:(48:UInt8).toNat=48:=rfl
 omega
theorem trim_pos {u k:Nat} (hu:1≤u) (h:Trim u k):1≤k:=by
 rcases Nat.eq_zero_or_pos k with e | e
 ·subst e
  have hl:=Lib.decDigits_length u
  have hn:=Lib.nDigits_pos u
  exact absurd (h.2.1 0 (by omega) (Nat.le_refl _)) (first_digit u hu (by omega))
 ·exact e
def eTxt (neg:Bool) (u k:Nat) (dp:Int):List Int :=
 if k=1 then (if neg then [45,(dI u).getD 0 0] else [(dI u).getD 0 0])++eTail dp
 else (if neg then [45,(dI u).getD 0 0,46] else [(dI u).getD 0 0,46])++mid u k++eTail dp
theorem fmtE_any (neg:Bool) (B g u k:Nat) (dp:Int) (W0 w:World) (v:Value) (hu:1≤u) (hu1:u < 18446744073709551616) (hdp0:-390≤dp) (hdp1:dp≤390) (ht:Trim u k) (hbuf:Buf B (some (g,u)) W0 v [] w) :
  Calls Tryz.prog 197 #[v,.bool neg,.slice (some ⟨g,0,none⟩) 32 32,.int .i64 dp,.int .i64 (k:Int),.int .i64 (max ((k:Int) - 1) 0),.int .u8 101,.bool true] w fun r w'=>∃ v' o,r=.returned v'∧Buf B o W0 v' (eTxt neg u (trimLen u) dp) w':=by
 have hk1:=trim_pos hu ht
 have hk2:=ht.1
 have hk3:=Lib.nDigits_le20 u hu1
 rw [← trim_len ht]
 have hl:=dI_length u
 have h0:(dI u)[0]? =some ((dI u).getD 0 0):=by
  rw [List.getD,List.getElem?_eq_getElem (by omega)];rfl
 have hE:dp - 1=(((dp - 1).natAbs:Nat):Int)∨dp - 1 < 0∧1 - dp=(((dp - 1).natAbs:Nat):Int):=by omega
 unfold eTxt
 by_cases hk:k=1
 ·rw [if_pos hk]
  subst hk
  have h:=fmtE_one neg B g u (dp - 1).natAbs dp _ W0 w v hbuf h0 hE (by omega)
  rw [show max (((1:Nat):Int) - 1) 0=0 from by decide,show ((1:Nat):Int)=1 from rfl]
  exact h.mono fun r w' ⟨v',a,b⟩=>⟨v',_,a,b⟩
 ·rw [if_neg hk,show max ((k:Int) - 1) 0=((k - 1:Nat):Int) from by omega]
  have h:=fmtE_many neg B g u (dp - 1).natAbs k (k - 1) dp _ W0 w v hbuf h0 hE (by omega) (by omega) (by omega) (by omega) rfl
  exact h.mono fun r w' ⟨v',a,b⟩=>⟨v',_,a,b⟩
end Go.Proofs.YtlgkfeeclgcgbaaGreatDoor.Rl
/- THE TEXT OF A FLOAT WITH A POINT INSIDE, as the library writes it. Own work of the verifier. -/
set_option maxRecDepth 100000
set_option maxHeartbeats 4000000
namespace Go.Proofs.YtlgkfeeclgcgbaaGreatDoor.Rl
open Go.RowKit Go.Sort
def behind (u D k:Nat):List Int:=((dI u).take k).drop D
theorem behind_length (u D k:Nat) (h:k≤(dI u).length):(behind u D k).length=k - D:=by unfold behind;rw [List.length_drop,List.length_take];omega
theorem behind_at (u D k:Nat) (h:k≤(dI u).length) (hD:D≤k):∀ j (hj:j < k - D),(behind u D k)[j]'(by rw [behind_length u D k h];exact hj)=(dI u)[D+j]'(by omega):=by
 intro j hj
 unfold behind;simp
theorem fmtF_mid (neg:Bool) (B g u k D P:Nat) (W0 w:World) (v:Value) (hbuf:Buf B (some (g,u)) W0 v [] w) (hD0:1≤D) (hDk:D < k) (hk:k≤(dI u).length) (hk2:k≤20) (hP:P=k - D) :
  Calls Tryz.prog 197 #[v,.bool neg,.slice (some ⟨g,0,none⟩) 32 32,.int .i64 (D:Int),.int .i64 (k:Int),.int .i64 (P:Int),.int .u8 102,.bool true] w fun r w'=>∃ v',r=.returned v'∧Buf B (some (g,u)) W0 v' ((if neg then [45] else [])++(dI u).take D++[46]++behind u D k) w':=by
 obtain ⟨i0,hi,hz0,hz1,hz2⟩:=info_parts infoByte
 have hmin:min (k:Int) (D:Int)=(D:Int):=by omega
 have hd0:decide (0 < D)=true:=decide_eq_true (by omega)
 have hP0:decide (0 < P)=true:=decide_eq_true (by omega)
 have hmax1:max (0:Int) (-(D:Int))=0:=by omega
 have hmin2:min (P:Int) 0=0:=by omega
 have hkd:(k:Int) - (D:Int)=(P:Int):=by omega
 have hmax2:max (0:Int) (P:Int)=(P:Int):=by omega
 have hDb:D≤20:=by omega
 have hPb:P≤20:=by omega
 have HBA:Hid (∀ j (hj:j < k - D),(behind u D k)[j]'(by rw [behind_length u D k hk];exact hj)=(dI u)[D+j]'(Nat.lt_of_lt_of_le (Nat.add_lt_of_lt_sub' hj) hk)):=behind_at u D k hk (Nat.le_of_lt hDk)
 have HP:Hid _:=hP
 have hbl:(behind u D k).length=P:=by rw [behind_length u D k hk,hP]
 clear hP
 obtain ⟨pre,HPRE⟩:∃ pre:List Int,Hid (pre=if neg then [45] else []):=⟨_,rfl⟩
 have hpl:pre.length≤1:=by rw [HPRE.out];cases neg <;> decide
 rw [← HPRE.out]
 cases neg
 all_goals
  go_enter Tryz.func197,Tryz.ntmps197
  go_wp2_with (first
   | (at_builtin;refine wpList_append_own _ rfl _ _ 146 rfl B 5 i0 (.int .u8 0) 1 1 Tryz.underlying146 hi hz0 hz1 hz2 rfl (by decide) _ _ _ rfl (hbuf.own.alloc _) ⟨_,0,none⟩ 1 1 [_] rfl rfl (cell_one_new _ _ _) (by intro u hu;simp at hu;subst hu;rfl) (by have:=hbuf.len;unfold maxLen;omega) (by have:=hbuf.len;omega) (by have:=hbuf.size;simp;omega) ?_;intro v w hown hgrow hnil;have hbuf:=hbuf.push _ hown hgrow hnil (by simp);clear hown hgrow hnil)
   | fail)
  have hbuf:Buf B (some (g,u)) W0 v pre w:=by rw [HPRE.out];exact hbuf
  go_loopw [191,0,25] (fun a v _ wr=>∃ j:Nat,j≤D∧a=.int .i64 j∧Buf B (some (g,u)) W0 v (pre++(dI u).take j) wr) (fun a _ _ _=>D - (intOf a).toNat)
  case atStart=>exact ⟨0,Nat.zero_le _,rfl,by simpa using hbuf⟩
  case round =>
   obtain ⟨j,hj,rfl,hbuf⟩:=hrel
   rcases Nat.lt_or_eq_of_le hj with hlt | heq
   ·have hc:=(hbuf.dig g u rfl).int j (by omega)
    have HX:Hid _:=take_one (dI u) j (by omega)
    generalize (dI u)[j]=x at *
    go_wp2_with (first
     | (at_builtin;refine wpList_append_own _ rfl _ _ 146 rfl B 5 i0 (.int .u8 0) 1 1 Tryz.underlying146 hi hz0 hz1 hz2 rfl (by decide) _ _ _ rfl (hbuf.own.alloc _) ⟨_,0,none⟩ 1 1 [_] rfl rfl (cell_one_new _ _ _) (by intro u hu;simp at hu;subst hu;rfl) (by have:=hbuf.len;unfold maxLen;omega) (by have:=hbuf.len;omega) (by have:=hbuf.size;simp;omega) ?_;intro v w hown hgrow hnil;have hbuf:=hbuf.push _ hown hgrow hnil (by simp;omega);clear hown hgrow hnil)
     | fail)
    go_roundw
    case rel=>exact ⟨j+1,by omega,by go_num,by rw [HX.out,← List.append_assoc];exact hbuf⟩
    case measure=>simp [intOf];omega
   ·subst heq
    have hlen:(pre++(dI u).take j).length≤21:=by simp;omega
    obtain ⟨zs,hzs⟩:∃ zs,pre++(dI u).take j=zs:=⟨_,rfl⟩
    rw [hzs] at hbuf hlen
    have HZ:Hid _:=hzs
    clear hzs
    go_wp2_with fail
    go_loopw [203,0] (fun a v wr=>a=.int .i64 0∧Buf B (some (g,u)) W0 v zs wr) (fun _ _ _=>0)
    case atStart=>exact ⟨rfl,hbuf⟩
    case round =>
     obtain ⟨rfl,hbuf⟩:=hrel
     go_wp2_with (first
      | (at_builtin;refine wpList_append_own _ rfl _ _ 146 rfl B 5 i0 (.int .u8 0) 1 1 Tryz.underlying146 hi hz0 hz1 hz2 rfl (by decide) _ _ _ rfl (hbuf.own.alloc _) ⟨_,0,none⟩ 1 1 [_] rfl rfl (cell_one_new _ _ _) (by intro u hu;simp at hu;subst hu;rfl) (by have:=hbuf.len;unfold maxLen;omega) (by have:=hbuf.len;omega) (by have:=hbuf.size;simp;omega) ?_;intro v w hown hgrow hnil;have hbuf:=hbuf.push _ hown hgrow hnil (by simp;omega);clear hown hgrow hnil)
      | fail)
     go_loopw [240,0] (fun a v wr=>a=.int .i64 0∧Buf B (some (g,u)) W0 v (zs++[46]) wr) (fun _ _ _=>0)
     case atStart=>exact ⟨rfl,hbuf⟩
     case round =>
      obtain ⟨rfl,hbuf⟩:=hrel
      go_wp2_with fail
      go_loopw [247,0,30] (fun a v _ wr=>∃ i:Nat,i≤P∧a=.int .i64 i∧Buf B (some (g,u)) W0 v (zs++[46]++(behind u j k).take i) wr) (fun a _ _ _=>P - (intOf a).toNat)
      case atStart=>exact ⟨0,Nat.zero_le _,rfl,by simpa using hbuf⟩
      case round =>
       obtain ⟨i,hir,rfl,hbuf⟩:=hrel
       rcases Nat.lt_or_eq_of_le hir with hlt3 | heq3
       ·have hpk:i < k - j:=by have:=HP.out;omega
        have hc:=(hbuf.dig g u rfl).int (j+i) (by omega)
        rw [← HBA.out i hpk] at hc
        have HX:Hid _:=take_one (behind u j k) i (by omega)
        generalize (behind u j k)[i]'(by omega)=x at *
        go_wp2_with (first
         | (at_builtin;refine wpList_append_own _ rfl _ _ 146 rfl B 5 i0 (.int .u8 0) 1 1 Tryz.underlying146 hi hz0 hz1 hz2 rfl (by decide) _ _ _ rfl (hbuf.own.alloc _) ⟨_,0,none⟩ 1 1 [_] rfl rfl (cell_one_new _ _ _) (by intro u hu;simp at hu;subst hu;rfl) (by have:=hbuf.len;unfold maxLen;omega) (by have:=hbuf.len;omega) (by have:=hbuf.size;simp;omega) ?_;intro v w hown hgrow hnil;have hbuf:=hbuf.push _ hown hgrow hnil (by simp;omega);clear hown hgrow hnil)
         | fail)
        go_roundw
        case rel=>exact ⟨i+1,by omega,by go_num,by rw [HX.out,← List.append_assoc];exact hbuf⟩
        case measure=>simp [intOf];omega
       ·subst heq3
        rw [List.take_of_length_le (by omega)] at hbuf
        go_wp2_with fail
        go_loopw [261,0] (fun a v wr=>a=.int .i64 0∧Buf B (some (g,u)) W0 v (zs++[46]++behind u j k) wr) (fun _ _ _=>0)
        case atStart=>exact ⟨rfl,hbuf⟩
        case round =>
         obtain ⟨rfl,hbuf⟩:=hrel
         go_wp2_with fail
         go_ret
         exact ⟨_,rfl,by rw [HZ.out];exact hbuf⟩
end Go.Proofs.YtlgkfeeclgcgbaaGreatDoor.Rl
