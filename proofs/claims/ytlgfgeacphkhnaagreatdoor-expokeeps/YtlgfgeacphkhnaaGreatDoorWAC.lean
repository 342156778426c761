/- Own work of the verifier. -/
import Derived.Test.YtlgfgeacphkhnaaGreatDoorWAB
import Derived.Lib.ItoaMem
import Derived.Laws.Strings
import Derived.Lib.ItoaNum
import Derived.Lib.Repeat
import Derived.Handy
import Derived.LoopN
import Derived.Deep.RegionWith
namespace Go.Proofs.YtlgfgeacphkhnaaGreatDoor.Wi
open Go.RowKit
theorem bcell {W w1 : World} (hb : Below W.heap.size W w1) : (∀ b o, b < W.heap.size → w1.cell? ⟨b, o, none⟩ = W.cell? ⟨b, o, none⟩) ∧ (∀ b o, b < W.heap.size → w1.frozen? ⟨b, o, none⟩ = W.frozen? ⟨b, o, none⟩) :=
 ⟨fun b o h => hb.cell (p := ⟨b, o, none⟩) h, fun b o h => hb.frozen (p := ⟨b, o, none⟩) h⟩
theorem Below.drewN' {B : Nat} {a w : World} (h : Below B a w) (n : Nat) : Below B a (w.drewN n) := by
 induction n with
 | zero => exact h
 | succ n ih => exact ⟨ih.os, ih.tape, ih.output, ih.size, ih.block⟩

set_option maxHeartbeats 400000 in
theorem neg_any (ah al : Int) (h1 : Wf ah al) (w : World) :
  Calls Tryz.prog 170 #[.agg #[.int .i64 ah, .int .u64 al]] w fun e w' =>
   e = .returned (num (rnd (- val ah al))) ∧ Below w.heap.size w w' := by
 have hs := sub_any 0 0 ah al ⟨by decide, by decide, by decide, by decide⟩ h1
 rw [show val 0 0 - val ah al = - val ah al from by rw [show val 0 0 = 0 from by decide]; omega] at hs
 have HS : Hid _ := hs
 clear hs
 go_enter Tryz.func170, Tryz.ntmps170
 go_wp2_with fail
 refine (HS.out _).mono ?_
 rintro e w1 ⟨rfl, hb⟩
 obtain ⟨hc, hf⟩ := bcell hb
 have hz : w.heap.size + 1 < w1.heap.size := by have := hb.size; simp at this; omega
 go_wp2
 simp [bodyPost, results, Tryz.results170, go_sem, hc]
 exact (((bel2 w _ _).trans (hb.mono (by simp; omega))).setCell (by simp) _).setCell (by simp) _

def mag (n : Int) : Int := if n < 0 then -n else n
theorem mag_words {ah al : Int} (h1 : Wf ah al) (hn : 0 ≤ ah) : ah = hiOf (mag (val ah al)) ∧ al = loOf (mag (val ah al)) := by
 obtain ⟨_, _, _, _⟩ := h1
 have : mag (val ah al) = val ah al := by unfold mag; rw [if_neg (by unfold val; omega)]
 rw [this]; unfold hiOf loOf val; constructor <;> omega
theorem mag_words' {ah al : Int} (h1 : Wf ah al) (hn : ah < 0) : IntKind.u64.wrap (hiOf (rnd (- val ah al))) = hiOf (mag (val ah al)) ∧ loOf (rnd (- val ah al)) = loOf (mag (val ah al)) := by
 obtain ⟨_, _, _, _⟩ := h1
 have : mag (val ah al) = - val ah al := by unfold mag; rw [if_pos (by unfold val; omega)]
 rw [this, IntKind.wrap_u64]; unfold hiOf loOf rnd val; constructor <;> omega
set_option maxHeartbeats 400000 in
theorem mag_any (ah al : Int) (h1 : Wf ah al) (w : World) :
  Calls Tryz.prog 127 #[.agg #[.int .i64 ah, .int .u64 al]] w fun e w' =>
   e = .returned (.tuple #[.int .u64 (hiOf (mag (val ah al))), .int .u64 (loOf (mag (val ah al)))]) ∧ Below w.heap.size w w' := by
 by_cases hn : 0 ≤ ah
 ·obtain ⟨e1, e2⟩ := mag_words h1 hn
  rw [← e1, ← e2]
  clear e1 e2
  obtain ⟨a1, a2, a3, a4⟩ := h1
  go_enter Tryz.func127, Tryz.ntmps127
  go_wp2
  go_quiet (fail)
  go_wp2
  go_ret2
  exact ⟨rfl, Below.drewN' (bel1 w _) _⟩
 ·obtain ⟨e1, e2⟩ := mag_words' h1 (by omega)
  rw [← e1, ← e2]
  clear e1 e2
  have hn' : ah < 0 := by omega
  go_enter Tryz.func127, Tryz.ntmps127
  go_wp2_with fail
  refine (neg_any _ _ h1 _).mono ?_
  rintro e w1 ⟨rfl, hb⟩
  obtain ⟨hc, hf⟩ := bcell hb
  have hz : w.heap.size < w1.heap.size := by have := hb.size; simp at this; omega
  go_wp2
  go_quiet (fail)
  go_wp2
  go_ret2
  exact ⟨rfl, Below.drewN' ((((bel1 w _).trans (hb.mono (by simp))).setCell (by simp) _).setCell (by simp) _) _⟩
end Go.Proofs.YtlgfgeacphkhnaaGreatDoor.Wi
namespace Go.Proofs.YtlgfgeacphkhnaaGreatDoor.Wi
open Go.RowKit Go.Sort

def Tab (w : World) : Prop := Lib.TabIs Tryz.prog w "internal/strconv.uint64pow10" .u64 Lib.pow10Tab
theorem Tab.below {w w' : World} (h : Tab w) (hb : Below w.heap.size w w') : Tab w' := by
 unfold Tab Lib.TabIs World.var? at *
 cases hg : Tryz.prog.globalNamed "internal/strconv.uint64pow10" with
 | none => simp [hg] at h
 | some g =>
  simp only [hg, Option.bind_some] at h ⊢
  have hlt : g < w.heap.size := by
   rcases Nat.lt_or_ge g w.heap.size with h' | h'
   ·exact h'
   ·rw [Array.getElem?_eq_none h'] at h; simp at h
  rw [hb.block g hlt]
  exact h
theorem Tab.alloc {w : World} (h : Tab w) (o : Obj) : Tab (w.alloc o) := h.below (bel1 w o)
theorem Tab.drewN {w : World} (h : Tab w) (k : Nat) : Tab (w.drewN k) := h.below (Below.drewN' (Below.refl _ _) k)

theorem below_grow (w : World) (k : Nat) (os : Array Obj) : Below w.heap.size w (grow (w.drewN k) os) := by
 refine (Below.drewN' (Below.refl w.heap.size w) k).trans ⟨rfl, rfl, rfl, by simp [grow], fun i hi => ?_⟩
 have e : (w.drewN k).heap = w.heap := by
  clear hi
  induction k with
  | zero => rfl
  | succ k ih => exact ih
 show ((w.drewN k).heap ++ os)[i]? = _
 rw [e, Array.getElem?_append_left hi]
theorem holds_zero0 (w : World) (T : TypeId) (nd : Nat) (hs : nd ≤ 24) : Holds (fun (b : UInt8) => Value.int .u8 (b.toNat : Int)) (w.alloc (.cells Lib.zeros24 T)) w.heap.size 0 (Array.replicate nd (0 : UInt8)) := fun j hj => by
 have hj' : j < nd := by simpa using hj
 refine ⟨?_, World.frozen?_alloc_new _ _ _ _⟩
 rw [World.cell?_alloc_new, Lib.zeros24_at _ (by omega), getElem!_pos _ j hj]
 simp
theorem fin0 (w : World) (o : Obj) (dk : Array UInt8) (k : Nat) : ∃ os, (putRow (fun (b : UInt8) => Value.int .u8 (b.toNat : Int)) (w.alloc o) w.heap.size 0 dk).drewN k = grow (w.drewN k) os := by
 rw [alloc_eq_grow]
 obtain ⟨os', _, e⟩ := putRow_grow_new (fun (b : UInt8) => Value.int .u8 (b.toNat : Int)) w #[o] w.heap.size 0 dk (Nat.le_refl _)
 exact ⟨os', by rw [e]; rfl⟩

set_option maxHeartbeats 4000000 in
set_option maxRecDepth 100000 in
theorem fmtu_any (u : Nat) (hu64 : u < 18446744073709551616) (w : World) (htab : Tab w) :
  Calls Tryz.prog 87 #[.int .u64 u, .int .i64 10] w fun e w' => e = .returned (.string ⟨(Lib.decDigits u).toArray⟩) ∧ Below w.heap.size w w' := by
 by_cases hs : u < 100
 ·clear htab
  go_enter Tryz.func87, Tryz.ntmps87
  go_wp2_with (go_at_call 120; refine (Tryz.internal_strconv_small u hs _).mono ?_; rintro e w' ⟨rfl, rfl⟩)
  go_ret
  exact ⟨rfl, Below.refl _ _⟩
 ·have hu1 : 1 ≤ u := by omega
  have hnd20 : Lib.nDigits u ≤ 20 := by have := Lib.numDigits_eq u hu1 hu64; split at this <;> omega
  have hal : Tryz.prog.arrayLen 132 = 24 := by simp [Program.arrayLen, Tryz.underlying132]
  have hsl1 : ∀ W, (Instr.sliceAt 132 (.pointer (some ⟨w.heap.size, 0, none⟩)) none (some (.int .i64 (Lib.nDigits u : Int))) none).run Tryz.prog W = .ok (.slice (some ⟨w.heap.size, 0, none⟩) (Lib.nDigits u) 24) W := fun W => by
   rw [run_sliceAt_array_h W 132 ⟨w.heap.size, 0, none⟩ (by simp [Program.arrayLen, Program.elem, Tryz.underlying132]) .i64 (Lib.nDigits u : Int) (by omega) (by rw [hal]; omega)]
   go_simp
  have hH0 := holds_zero0 w 132 (Lib.nDigits u) (by omega)
  have hfmt := Tryz.internal_strconv_formatBase10 w.heap.size 0 24 u (Array.replicate (Lib.nDigits u) 0) (w.alloc (.cells Lib.zeros24 132)) hH0 (by rw [Array.size_replicate]; exact Lib.lt_pow_nDigits u) hu64 (by rw [Array.size_replicate]; omega)
  rw [Array.size_replicate] at hfmt
  have HH0 := Lib.hid hH0
  clear hH0 hal
  go_enter Tryz.func87, Tryz.ntmps87
  go_wp2_with (first
   | (go_at_call 121; refine (Tryz.internal_strconv_numDigits u hu1 hu64 _ (htab.alloc _)).mono ?_; rintro e w' ⟨rfl, rfl⟩))
  refine hfmt.mono ?_
  rintro e w' ⟨rfl, k, v', dk, rfl, hF⟩
  have hcv : (convert 41 9 (.slice (some ⟨w.heap.size, 0, none⟩) (Lib.nDigits u) 24)).run Tryz.prog ((putRow (fun (b : UInt8) => Value.int .u8 (b.toNat : Int)) (w.alloc (.cells Lib.zeros24 132)) w.heap.size 0 dk).drewN k) = .ok (.string ⟨(Lib.decDigits u).toArray⟩) ((putRow (fun (b : UInt8) => Value.int .u8 (b.toNat : Int)) (w.alloc (.cells Lib.zeros24 132)) w.heap.size 0 dk).drewN k) := by
   have h := run_convert_bytes_back (P := Tryz.prog) ((putRow (fun (b : UInt8) => Value.int .u8 (b.toNat : Int)) (w.alloc (.cells Lib.zeros24 132)) w.heap.size 0 dk).drewN k) 41 9 5 ⟨w.heap.size, 0, none⟩ 24 (Lib.decDigits u) Tryz.underlying41 Tryz.underlying5 Tryz.underlying9 (fun j hj => by
    rw [Lib.row_is_numeral hF j hj, Lib.add_plain, World.cell?_drewN]
    exact cell?_putRow (fun (b : UInt8) => Value.int .u8 (b.toNat : Int)) _ w.heap.size 0 _ dk HH0.out (by rw [hF.size, Array.size_replicate]) j (by rw [hF.size]; rw [Lib.decDigits_length] at hj; exact hj))
   rw [Lib.decDigits_length] at h
   exact h
  go_wp2
  go_ret
  obtain ⟨os, eo⟩ := fin0 w (.cells Lib.zeros24 132) dk k
  refine ⟨rfl, ?_⟩
  rw [eo]
  exact below_grow _ _ _
set_option maxHeartbeats 400000 in
theorem fmt_any (u : Int) (hu0 : 0 ≤ u) (hu64 : u < 18446744073709551616) (w : World) (htab : Tab w) :
  Calls Tryz.prog 58 #[.int .u64 u, .int .i64 10] w fun e w' => e = .returned (.string ⟨(Lib.decDigits u.toNat).toArray⟩) ∧ Below w.heap.size w w' := by
 obtain ⟨u, rfl⟩ := Int.eq_ofNat_of_zero_le hu0
 rw [Int.toNat_natCast]
 go_enter Tryz.func58, Tryz.ntmps58
 go_wp2_with fail
 refine (fmtu_any u (by omega) _ htab).mono ?_
 rintro e w1 ⟨rfl, hb⟩
 go_wp2
 go_ret
 exact ⟨rfl, hb⟩
end Go.Proofs.YtlgfgeacphkhnaaGreatDoor.Wi
/- THE PLAIN MATHEMATICS of numerals (no Go in sight). Own work of the verifier. -/
namespace Go.Proofs.YtlgfgeacphkhnaaGreatDoor.Wi

theorem dec_small {u : Nat} (h : u < 10) : Lib.decDigits u = [UInt8.ofNat (48 + u)] := by rw [Lib.decDigits, dif_pos h]
theorem dec_big {u : Nat} (h : ¬ u < 10) : Lib.decDigits u = Lib.decDigits (u / 10) ++ [UInt8.ofNat (48 + u % 10)] := by rw [Lib.decDigits, dif_neg h]
theorem dec_snoc {a b : Nat} (ha : 0 < a) (hb : b < 10) : Lib.decDigits (a * 10 + b) = Lib.decDigits a ++ [UInt8.ofNat (48 + b)] := by
 rw [dec_big (by omega), show (a * 10 + b) / 10 = a from by omega, show (a * 10 + b) % 10 = b from by omega]

theorem dec_join (a : Nat) (ha : 0 < a) : ∀ (k b : Nat), 1 ≤ k → b < 10 ^ k → Lib.decDigits (a * 10 ^ k + b) = Lib.decDigits a ++ (List.replicate (k - Lib.nDigits b) 48 ++ Lib.decDigits b)
 | 0, _, h, _ => by omega
 | 1, b, _, hb => by
  have hb' : b < 10 := by simpa using hb
  rw [show (10 : Nat) ^ 1 = 10 from rfl, dec_snoc ha hb', Lib.nDigits_small hb', dec_small hb']
  simp
 | k + 2, b, _, hb => by
  have hp : (10 : Nat) ^ (k + 2) = 10 ^ (k + 1) * 10 := Nat.pow_succ ..
  have hpos : 0 < 10 ^ (k + 1) := Nat.pow_pos (by decide)
  rw [hp] at hb
  have hN : a * 10 ^ (k + 2) + b = (a * 10 ^ (k + 1) + b / 10) * 10 + b % 10 := by
   rw [hp, ← Nat.mul_assoc]
   omega
  have h1 : 0 < a * 10 ^ (k + 1) := Nat.mul_pos ha hpos
  rw [hN, dec_snoc (by omega) (Nat.mod_lt _ (by decide)), dec_join a ha (k + 1) (b / 10) (by omega) (by omega)]
  by_cases hb10 : b < 10
  ·rw [show b / 10 = 0 from by omega, show b % 10 = b from by omega, Lib.nDigits_small (u := 0) (by decide), Lib.nDigits_small hb10, dec_small (u := 0) (by decide), dec_small hb10, show k + 2 - 1 = (k + 1 - 1) + 1 from by omega, List.replicate_succ']
   simp
  ·rw [Lib.nDigits_big hb10, dec_big hb10, show k + 2 - (Lib.nDigits (b / 10) + 1) = k + 1 - Lib.nDigits (b / 10) from by omega]
   simp

theorem nDigits_le_pow : ∀ (k u : Nat), u < 10 ^ (k + 1) → Lib.nDigits u ≤ k + 1
 | 0, u, h => by rw [Lib.nDigits_small (by simpa using h)]; omega
 | k + 1, u, h => by
  by_cases hu : u < 10
  ·rw [Lib.nDigits_small hu]; omega
  ·rw [Lib.nDigits_big hu]
   have := nDigits_le_pow k (u / 10) (by rw [Nat.pow_succ] at h; omega)
   omega
theorem repeat_48 (k : Nat) : Lib.repeatL [48] k = List.replicate k 48 := by
 induction k with
 | zero => rfl
 | succ k ih => simp [Lib.repeatL, ih, List.replicate_succ]

theorem dec_piece (N : Nat) (h : ¬ N / 10000000000000000000 = 0) :
  Lib.decDigits (N / 10000000000000000000) ++ (Lib.repeatL [48] (19 - Lib.nDigits (N % 10000000000000000000)) ++ Lib.decDigits (N % 10000000000000000000)) = Lib.decDigits N := by
 have e := dec_join (N / 10000000000000000000) (by omega) 19 (N % 10000000000000000000) (by omega) (by simp only [show (10 : Nat) ^ 19 = 10000000000000000000 from by decide]; omega)
 rw [repeat_48, ← e, show (10 : Nat) ^ 19 = 10000000000000000000 from by decide]
 congr 1
 omega
end Go.Proofs.YtlgfgeacphkhnaaGreatDoor.Wi
namespace Go.Proofs.YtlgfgeacphkhnaaGreatDoor.Wi
open Go.RowKit Go.Sort


theorem rep_any (c : Int) (h0 : 0 ≤ c) (h1 : c ≤ 19) (w : World) :
  Calls Tryz.prog 169 #[.string ⟨#[48]⟩, .int .i64 c] w fun e w' => e = .returned (.string ⟨(Lib.repeatL [48] c.toNat).toArray⟩) ∧ Below w.heap.size w w' := by
 obtain ⟨c, rfl⟩ := Int.eq_ofNat_of_zero_le h0
 rw [Int.toNat_natCast]
 have h := Tryz.strings_Repeat ⟨#[48]⟩ c w (by omega) (by show 1 * c ≤ _; omega)
 exact h
set_option maxHeartbeats 1000000 in
set_option maxRecDepth 100000 in
theorem digits_any (hi lo : Int) (h0 : 0 ≤ hi) (h1 : hi ≤ 9223372036854775808) (h2 : 0 ≤ lo) (h3 : lo < 18446744073709551616) (w : World) (htab : Tab w) :
  Calls Tryz.prog 126 #[.int .u64 hi, .int .u64 lo] w fun e w' => e = .returned (.string ⟨(Lib.decDigits (val hi lo).toNat).toArray⟩) ∧ Below w.heap.size w w' := by
 have hd := div64_any hi lo 10000000000000000000 h0 h2 h3 (by omega) (by decide)
 obtain ⟨N, hN⟩ : ∃ N : Nat, (N : Int) = hi * 18446744073709551616 + lo := ⟨(hi * 18446744073709551616 + lo).toNat, by omega⟩
 rw [← hN] at hd
 have q0 : 0 ≤ (N : Int) / 10000000000000000000 := by omega
 have q1 : (N : Int) / 10000000000000000000 < 18446744073709551616 := by omega
 have r0 : 0 ≤ (N : Int) % 10000000000000000000 := by omega
 have r1 : (N : Int) % 10000000000000000000 < 10000000000000000000 := by omega
 rw [show (val hi lo).toNat = N from by unfold val; omega]
 have hq : ((N : Int) / 10000000000000000000).toNat = N / 10000000000000000000 := by omega
 have hr : ((N : Int) % 10000000000000000000).toNat = N % 10000000000000000000 := by omega
 have hlen := nDigits_le_pow 18 (N % 10000000000000000000) (by rw [show (10 : Nat) ^ (18 + 1) = 10000000000000000000 from by decide]; omega)
 rw [← Lib.decDigits_length] at hlen
 have hl1 : ((Lib.decDigits (N % 10000000000000000000)).length : Int) ≤ 19 := by omega
 have hl0 : Lib.repeatL [48] (19 - ((Lib.decDigits (N % 10000000000000000000)).length : Int)).toNat = Lib.repeatL [48] (19 - Lib.nDigits (N % 10000000000000000000)) := by
  congr 1
  rw [Lib.decDigits_length]; rw [Lib.decDigits_length] at hl1; omega
 have HL0 : Hid _ := hl0
 have hA : (Lib.decDigits (N / 10000000000000000000)).length ≤ 20 := by
  rw [Lib.decDigits_length]; exact nDigits_le_pow 19 _ (by rw [show (10 : Nat) ^ (19 + 1) = 100000000000000000000 from by decide]; omega)
 have hZ : (Lib.repeatL [48] (19 - Lib.nDigits (N % 10000000000000000000))).length ≤ 19 := by rw [repeat_48, List.length_replicate]; omega
 have HD : Hid _ := hd
 clear hlen hl0
 have HP : Hid _ := dec_piece N
 have f1 := fun W (h : Tab W) => fmt_any ((N : Int) / 10000000000000000000) q0 q1 W h
 have f2 := fun W (h : Tab W) => fmt_any ((N : Int) % 10000000000000000000) r0 (by omega) W h
 rw [hq] at f1
 rw [hr] at f2
 have F1 : Hid _ := f1
 have F2 : Hid _ := f2
 clear hd hN f1 f2 hq hr
 have hfin : ¬ (N : Int) / 10000000000000000000 = 0 → Lib.decDigits (N / 10000000000000000000) ++ (Lib.repeatL [48] (19 - Lib.nDigits (N % 10000000000000000000)) ++ Lib.decDigits (N % 10000000000000000000)) = Lib.decDigits N := by
  intro h
  exact HP.out (by omega)
 have HF : Hid _ := hfin
 clear HP hfin
 by_cases hz : (N : Int) / 10000000000000000000 = 0
 ·have hN2 : N % 10000000000000000000 = N := by omega
  have HN2 : Hid _ := hN2
  have hz' : ((N : Int) / 10000000000000000000 == 0) = true := by rw [beq_iff_eq]; exact hz
  clear hN2 hz
  go_enter Tryz.func126, Tryz.ntmps126
  go_wp2_with fail
  refine (HD.out _).mono ?_
  rintro e w1 ⟨rfl, k, rfl⟩
  go_wp2_with fail
  refine (F2.out _ (htab.drewN k)).mono ?_
  rintro e w2 ⟨rfl, hb⟩
  go_wp2
  go_ret
  refine ⟨?_, (Below.drewN' (Below.refl _ _) k).trans hb⟩
  rw [HN2.out]
  rfl
 ·have hz' : ((N : Int) / 10000000000000000000 == 0) = false := by rw [beq_eq_false_iff_ne]; exact hz
  have HF' : Hid _ := HF.out hz
  clear HF
  generalize Lib.decDigits (N / 10000000000000000000) = A at *
  generalize Lib.repeatL [48] (19 - Lib.nDigits (N % 10000000000000000000)) = Z at *
  generalize Lib.decDigits (N % 10000000000000000000) = C at *
  generalize Lib.decDigits N = D at *
  generalize (N : Int) / 10000000000000000000 = q at *
  generalize (N : Int) % 10000000000000000000 = r at *
  have c1 : ∀ W, (Op.stringOp .add ⟨A.toArray⟩ ⟨Z.toArray⟩).run Tryz.prog W = .ok (.string ⟨(A ++ Z).toArray⟩) W := fun W => run_string_add_lists W A Z (by omega) (by omega)
  have c2 : ∀ W, (Op.stringOp .add ⟨(A ++ Z).toArray⟩ ⟨C.toArray⟩).run Tryz.prog W = .ok (.string ⟨(A ++ Z ++ C).toArray⟩) W := fun W => run_string_add_lists W (A ++ Z) C (by rw [List.length_append]; omega) (by omega)
  go_enter Tryz.func126, Tryz.ntmps126
  go_wp2_with fail
  refine (HD.out _).mono ?_
  rintro e w1 ⟨rfl, k, rfl⟩
  go_wp2_with fail
  refine (F2.out _ (htab.drewN k)).mono ?_
  rintro e w2 ⟨rfl, hb⟩
  go_wp2_with fail
  refine (F1.out _ ((htab.drewN k).below hb)).mono ?_
  rintro e w3 ⟨rfl, hb3⟩
  go_wp2_with fail
  refine (rep_any _ (by omega) (by omega) _).mono ?_
  rintro e w4 ⟨rfl, hb4⟩
  rw [HL0.out]
  go_wp2
  go_ret
  exact ⟨by rw [← HF'.out]; rfl, (((Below.drewN' (Below.refl _ _) k).trans hb).trans (hb3.mono hb.size)).trans (hb4.mono (Nat.le_trans hb.size hb3.size))⟩
end Go.Proofs.YtlgfgeacphkhnaaGreatDoor.Wi
/- THE DOCUMENT's TEXTS: the magnitude, and its tenth. Own work of the verifier. -/
namespace Go.Proofs.YtlgfgeacphkhnaaGreatDoor.Wi
open Go.RowKit Go.Sort

set_option maxHeartbeats 400000 in
theorem size_any (ah al : Int) (h1 : Wf ah al) (w : World) :
  Calls Tryz.prog 47 #[.agg #[.int .i64 ah, .int .u64 al]] w fun e w' =>
   e = .returned (.tuple #[.int .u64 (hiOf (mag (val ah al))), .int .u64 (loOf (mag (val ah al)))]) ∧ Below w.heap.size w w' := by
 by_cases hn : 0 ≤ ah
 ·obtain ⟨e1, e2⟩ := mag_words h1 hn
  rw [← e1, ← e2]
  clear e1 e2
  obtain ⟨a1, a2, a3, a4⟩ := h1
  go_enter Tryz.func47, Tryz.ntmps47
  go_wp2
  go_quiet (fail)
  go_wp2
  go_ret2
  exact ⟨rfl, Below.drewN' (bel1 w _) _⟩
 ·obtain ⟨e1, e2⟩ := mag_words' h1 (by omega)
  rw [← e1, ← e2]
  clear e1 e2
  have hn' : ah < 0 := by omega
  go_enter Tryz.func47, Tryz.ntmps47
  go_wp2_with fail
  refine (refneg_any _ _ h1 _).mono ?_
  rintro e w1 ⟨rfl, hb⟩
  obtain ⟨hc, hf⟩ := bcell hb
  have hz : w.heap.size < w1.heap.size := by have := hb.size; simp at this; omega
  go_wp2
  go_quiet (fail)
  go_wp2
  go_ret2
  exact ⟨rfl, Below.drewN' ((((bel1 w _).trans (hb.mono (by simp))).setCell (by simp) _).setCell (by simp) _) _⟩

set_option maxHeartbeats 2000000 in
set_option maxRecDepth 100000 in
theorem tenth_w (a b p0 p1 p2 p3 : Int) (e0 : a / 4294967296 = p0) (e1 : bits .and .u64 a 4294967295 = p1) (e2 : b / 4294967296 = p2) (e3 : bits .and .u64 b 4294967295 = p3)
  (z00 : 0 ≤ p0) (z01 : p0 < 4294967296) (z10 : 0 ≤ p1) (z11 : p1 < 4294967296) (z20 : 0 ≤ p2) (z21 : p2 < 4294967296) (z30 : 0 ≤ p3) (z31 : p3 < 4294967296) (w : World) :
  Calls Tryz.prog 48 #[.int .u64 a, .int .u64 b] w fun e w' =>
   e = .returned (.tuple #[.int .u64 (p0 / 10 * 4294967296 + (p0 % 10 * 4294967296 + p1) / 10), .int .u64 (((p0 % 10 * 4294967296 + p1) % 10 * 4294967296 + p2) / 10 * 4294967296 + (((p0 % 10 * 4294967296 + p1) % 10 * 4294967296 + p2) % 10 * 4294967296 + p3) / 10), .int .u64 ((((p0 % 10 * 4294967296 + p1) % 10 * 4294967296 + p2) % 10 * 4294967296 + p3) % 10)]) ∧ Below w.heap.size w w' := by
 go_enter Tryz.func48, Tryz.ntmps48
 go_wp2
 go_rounds 5
 go_quiet (fail)
 go_wp2
 go_ret3
 exact ⟨rfl, Below.drewN' (bel1 _ _) _⟩
theorem tenth_math {N p0 p1 p2 p3 : Int} (hN : N = ((p0 * 4294967296 + p1) * 4294967296 + p2) * 4294967296 + p3) (z10 : 0 ≤ p1) (z11 : p1 < 4294967296) (z20 : 0 ≤ p2) (z21 : p2 < 4294967296) (z30 : 0 ≤ p3) (z31 : p3 < 4294967296) :
  p0 / 10 * 4294967296 + (p0 % 10 * 4294967296 + p1) / 10 = hiOf (N / 10) ∧ ((p0 % 10 * 4294967296 + p1) % 10 * 4294967296 + p2) / 10 * 4294967296 + (((p0 % 10 * 4294967296 + p1) % 10 * 4294967296 + p2) % 10 * 4294967296 + p3) / 10 = loOf (N / 10) ∧
  (((p0 % 10 * 4294967296 + p1) % 10 * 4294967296 + p2) % 10 * 4294967296 + p3) % 10 = N % 10 := by
 unfold hiOf loOf
 generalize h0 : p0 / 10 = q0
 generalize g0 : p0 % 10 = r0
 generalize h1 : (r0 * 4294967296 + p1) / 10 = q1
 generalize g1 : (r0 * 4294967296 + p1) % 10 = r1
 generalize h2 : (r1 * 4294967296 + p2) / 10 = q2
 generalize g2 : (r1 * 4294967296 + p2) % 10 = r2
 generalize h3 : (r2 * 4294967296 + p3) / 10 = q3
 generalize g3 : (r2 * 4294967296 + p3) % 10 = r3
 have e : N = (((q0 * 4294967296 + q1) * 4294967296 + q2) * 4294967296 + q3) * 10 + r3 := by omega
 have b : 0 ≤ q1 ∧ q1 < 4294967296 ∧ 0 ≤ q2 ∧ q2 < 4294967296 ∧ 0 ≤ q3 ∧ q3 < 4294967296 ∧ 0 ≤ r3 ∧ r3 < 10 := by omega
 clear hN h0 g0 h1 g1 h2 g2 h3 g3
 omega
theorem tenth_any (N : Int) (h0 : 0 ≤ N) (h1 : N < 340282366920938463463374607431768211456) (w : World) :
  Calls Tryz.prog 48 #[.int .u64 (hiOf N), .int .u64 (loOf N)] w fun e w' =>
   e = .returned (.tuple #[.int .u64 (hiOf (N / 10)), .int .u64 (loOf (N / 10)), .int .u64 (N % 10)]) ∧ Below w.heap.size w w' := by
 have a0 : 0 ≤ hiOf N := by unfold hiOf; omega
 have a1 : hiOf N < 18446744073709551616 := by unfold hiOf; omega
 have b0 : 0 ≤ loOf N := by unfold loOf; omega
 have b1 : loOf N < 18446744073709551616 := by unfold loOf; omega
 have hN : N = hiOf N * 18446744073709551616 + loOf N := (val_hl N).symm
 generalize hiOf N = a at *
 generalize loOf N = b at *
 obtain ⟨t1, t2, t3⟩ := tenth_math (N := N) (p0 := a / 4294967296) (p1 := a % 4294967296) (p2 := b / 4294967296) (p3 := b % 4294967296) (by omega) (by omega) (by omega) (by omega) (by omega) (by omega) (by omega)
 have h := tenth_w a b _ _ _ _ rfl (low32 a a0 a1) rfl (low32 b b0 b1) (by omega) (by omega) (by omega) (by omega) (by omega) (by omega) (by omega) (by omega) w
 rw [t1, t2, t3] at h
 exact h
end Go.Proofs.YtlgfgeacphkhnaaGreatDoor.Wi
namespace Go.Proofs.YtlgfgeacphkhnaaGreatDoor.Wi
open Go.RowKit Go.Sort

theorem mag_0 (n : Int) : 0 ≤ mag n := by unfold mag; split <;> omega
theorem mag_le {ah al : Int} (h1 : Wf ah al) : 0 ≤ hiOf (mag (val ah al)) ∧ hiOf (mag (val ah al)) ≤ 9223372036854775808 ∧ 0 ≤ loOf (mag (val ah al)) ∧ loOf (mag (val ah al)) < 18446744073709551616 := by
 obtain ⟨_, _, _, _⟩ := h1
 unfold mag hiOf loOf val; split <;> omega
theorem itoa_neg' {n : Int} (h : n < 0) : Lib.itoa n = 45 :: Lib.decDigits (mag n).toNat := by
 unfold Lib.itoa mag; rw [if_pos h, if_pos h, show n.natAbs = (-n).toNat from by omega]
theorem itoa_pos' {n : Int} (h : ¬ n < 0) : Lib.itoa n = Lib.decDigits (mag n).toNat := by
 unfold Lib.itoa mag; rw [if_neg h, if_neg h]
theorem dec_len (N : Nat) (h : N ≤ 170141183460469231731687303715884105728) : (Lib.decDigits N).length ≤ 39 := by
 rw [Lib.decDigits_length]; exact nDigits_le_pow 38 _ (by rw [show (10 : Nat) ^ (38 + 1) = 1000000000000000000000000000000000000000 from by decide]; omega)
theorem val_neg {ah al : Int} (h1 : Wf ah al) : val ah al < 0 ↔ ah < 0 := by
 obtain ⟨_, _, _, _⟩ := h1; unfold val; omega

set_option maxHeartbeats 1000000 in
set_option maxRecDepth 100000 in
theorem print_any (ah al : Int) (h1 : Wf ah al) (w : World) (htab : Tab w) :
  Calls Tryz.prog 89 #[.agg #[.int .i64 ah, .int .u64 al]] w fun e w' =>
   e = .returned (.string ⟨(Lib.itoa (val ah al)).toArray⟩) ∧ Below w.heap.size w w' := by
 obtain ⟨m0, m1, m2, m3⟩ := mag_le h1
 have hd := fun W => digits_any _ _ m0 m1 m2 m3 W
 rw [val_hl] at hd
 have HD : Hid _ := hd
 have HM : Hid _ := mag_any ah al h1
 have hl : (Lib.decDigits (mag (val ah al)).toNat).length ≤ 39 := dec_len _ (by obtain ⟨_, _, _, _⟩ := h1; unfold mag val; split <;> omega)
 clear hd
 by_cases hn : ah < 0
 ·rw [itoa_neg' ((val_neg h1).2 hn)]
  generalize Lib.decDigits (mag (val ah al)).toNat = D at *
  generalize hiOf (mag (val ah al)) = mh at *
  generalize loOf (mag (val ah al)) = ml at *
  have c1 : ∀ W, (Op.stringOp .add ⟨#[45]⟩ ⟨D.toArray⟩).run Tryz.prog W = .ok (.string ⟨(45 :: D).toArray⟩) W := fun W => run_string_add_lists W [45] D (by decide) (by omega)
  clear h1
  go_enter Tryz.func89, Tryz.ntmps89
  go_wp2_with fail
  refine (HM.out _).mono ?_
  rintro e w1 ⟨rfl, hb1⟩
  go_wp2_with fail
  refine (HD.out _ ((htab.alloc _).below hb1)).mono ?_
  rintro e w2 ⟨rfl, hb2⟩
  have hc : w2.cell? ⟨w.heap.size, 0, none⟩ = some (.int .i64 ah) := by
   rw [hb2.cell (p := ⟨w.heap.size, 0, none⟩) (by have := hb1.size; simp at this; simp; omega), hb1.cell (p := ⟨w.heap.size, 0, none⟩) (by simp)]
   simp [go_sem]
  go_wp2
  go_ret
  exact ⟨rfl, ((bel1 w _).trans (hb1.mono (by simp))).trans (hb2.mono (by have := hb1.size; simp at this; omega))⟩
 ·rw [itoa_pos' (fun h => hn ((val_neg h1).1 h))]
  generalize Lib.decDigits (mag (val ah al)).toNat = D at *
  generalize hiOf (mag (val ah al)) = mh at *
  generalize loOf (mag (val ah al)) = ml at *
  clear h1
  go_enter Tryz.func89, Tryz.ntmps89
  go_wp2_with fail
  refine (HM.out _).mono ?_
  rintro e w1 ⟨rfl, hb1⟩
  go_wp2_with fail
  refine (HD.out _ ((htab.alloc _).below hb1)).mono ?_
  rintro e w2 ⟨rfl, hb2⟩
  have hc : w2.cell? ⟨w.heap.size, 0, none⟩ = some (.int .i64 ah) := by
   rw [hb2.cell (p := ⟨w.heap.size, 0, none⟩) (by have := hb1.size; simp at this; simp; omega), hb1.cell (p := ⟨w.heap.size, 0, none⟩) (by simp)]
   simp [go_sem]
  go_wp2
  go_ret
  exact ⟨rfl, ((bel1 w _).trans (hb1.mono (by simp))).trans (hb2.mono (by have := hb1.size; simp at this; omega))⟩
end Go.Proofs.YtlgfgeacphkhnaaGreatDoor.Wi
namespace Go.Proofs.YtlgfgeacphkhnaaGreatDoor.Wi
open Go.RowKit Go.Sort

theorem take_snoc' (l : List UInt8) (k : Nat) (h : k < l.length) : l.take (k + 1) = l.take k ++ [l[k]] := by
 rw [List.take_succ_eq_append_getElem h]



end Go.Proofs.YtlgfgeacphkhnaaGreatDoor.Wi
namespace Go.Proofs.YtlgfgeacphkhnaaGreatDoor.Wi
open Go.RowKit Go.Sort


theorem own2 {w w1 : World} {a b : Value} {t : TypeId} (hb : Below (w.alloc (.cells #[a, b] t)).heap.size (w.alloc (.cells #[a, b] t)) w1) :
  w1.cell? ⟨w.heap.size, 0, none⟩ = some a ∧ w1.cell? ⟨w.heap.size, 1, none⟩ = some b ∧ w1.frozen? ⟨w.heap.size, 0, none⟩ = false ∧ w1.frozen? ⟨w.heap.size, 1, none⟩ = false ∧ w.heap.size < w1.heap.size := by
 refine ⟨?_, ?_, ?_, ?_, by have := hb.size; simp at this; omega⟩
 ·rw [hb.cell (p := ⟨w.heap.size, 0, none⟩) (by simp)]; simp [go_sem]
 ·rw [hb.cell (p := ⟨w.heap.size, 1, none⟩) (by simp)]; simp [go_sem]
 ·rw [hb.frozen (p := ⟨w.heap.size, 0, none⟩) (by simp)]; simp [go_sem]
 ·rw [hb.frozen (p := ⟨w.heap.size, 1, none⟩) (by simp)]; simp [go_sem]
end Go.Proofs.YtlgfgeacphkhnaaGreatDoor.Wi
