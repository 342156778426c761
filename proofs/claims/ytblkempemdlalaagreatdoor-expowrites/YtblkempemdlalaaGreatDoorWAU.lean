/- shift: the document's whole numbers of layer 2. Own work of the verifier. -/
import Derived.Test.YtblkempemdlalaaGreatDoorWAT
import Derived.Laws.ShiftsVarLaws
import Derived.Laws.OwnMore
namespace Go.Proofs.YtblkempemdlalaaGreatDoor.Rl
open Go.RowKit Soft

theorem zeros_bv (q : Nat) : bv (List.replicate q 0) = 0 := by
 induction q with
 | zero => rfl
 | succ q ih => rw [List.replicate_succ]; show 0 + 4294967296 * bv (List.replicate q 0) = 0; rw [ih]
theorem up_bv (q r a : Nat) (T : List Nat) (h : bv T = a * 2 ^ r) : bv (List.replicate q 0 ++ T) = a * 2 ^ (32 * q + r) := by
 rw [bv_append, zeros_bv, List.length_replicate, h, Nat.zero_add, Nat.pow_add, Nat.pow_mul, show 2 ^ 32 = 4294967296 from by decide]
 rw [← Nat.mul_assoc, ← Nat.mul_assoc, Nat.mul_comm a]
theorem b32_zeros {q : Nat} {T : List Nat} (h : B32 T) : B32 (List.replicate q 0 ++ T) := fun x hx => by
 rcases List.mem_append.1 hx with k | k
 ·rw [(List.mem_replicate.1 k).2]; decide
 ·exact h x k
theorem GB.pushes {B : Nat} {e : TypeId} {f : Nat → Value} {W0 w w' : World} {v v' : Value} {xs ys : List Nat} {m : Nat} (h : GB B e f W0 v xs w)
  (hown : w'.ownsRow B e 1 v' (xs.length + m) (xs.map f ++ ys.map f)) (hm : ys.length = m) (hg : w.grownBy w' v.ownBlock) (hnil : v' = .slice none 0 0 ↔ v = .slice none 0 0 ∧ m = 0) : GB B e f W0 v' (xs ++ ys) w' := by
 obtain ⟨gv, cap, cur, rfl, hB, hcur, _⟩ := own_ofG h.own h.nz
 have hg' : w.grownBy w' (some gv) := hg
 have s2 := hg'.size
 refine ⟨?_, fun e => h.nz (hnil.1 e).1, ?_, by have := h.size; omega⟩
 ·rw [List.length_append, List.map_append, hm]; exact hown
 ·exact h.below.grown hg' h.size (fun k e => by cases e; exact hB)
theorem RB.news {W : World} {b o cap : Nat} {L : List Nat} (h : RB W (some ⟨b, o, none⟩) b o cap L) : ∀ j u, (L.map pV)[j]? = some u → W.cell? ((⟨b, o, none⟩ : Addr).add j) = some u := by
 intro j u hu
 rw [List.getElem?_map] at hu
 cases hj : L[j]? with
 | none => rw [hj] at hu; cases hu
 | some x =>
  rw [hj] at hu
  obtain ⟨hl, hx⟩ := List.getElem?_eq_some_iff.1 hj
  cases hu
  have := h.row j hl
  rw [hx] at this
  unfold Addr.add
  by_cases h0 : j = 0
  ·subst h0; exact this
  ·rw [if_neg h0]; exact this

set_option maxHeartbeats 2000000 in
set_option maxRecDepth 100000 in
theorem nshift_rows (ao : Option Addr) (b o cap : Nat) (A : List Nat) (q r : Nat) (hq : q ≤ 1000) (hr : r < 32) (w : World) (h : RB w ao b o cap A) (hl : A.length ≤ 100000000) (hne : A ≠ []) :
    Calls Tryz.prog 173 #[.slice ao A.length cap, .int .i64 ((32 * q + r : Nat) : Int)] w fun e w' => ∃ v, e = .returned v ∧ Below w.heap.size w w' ∧ BigIn w' v (bv A * 2 ^ (32 * q + r)) := by
  obtain ⟨i0, hi, hz0, hz1, hz2⟩ := info_parts infoP
  obtain rfl := h.addr hne
  have hA0 : ((A.length : Int) == 0) = false := by rw [beq_eq_false_iff_ne]; have : 0 < A.length := List.length_pos_iff.2 hne; omega
  have e1 : ((32 * q + r : Nat) : Int) / 32 = (q : Int) := by omega
  have e2 : ((32 * q + r : Nat) : Int) % 32 = (r : Int) := by omega
  have hn0 : (0 : Int) ≤ ((32 * q + r : Nat) : Int) := by omega
  have hn1 : ((32 * q + r : Nat) : Int) < 100000 := by omega
  have hpow : Hid (bv (List.replicate q 0 ++ A) * 2 ^ r = bv A * 2 ^ (32 * q + r)) := by
    have := up_bv q 0 (bv A) A (by rw [Nat.pow_zero, Nat.mul_one])
    rw [Nat.add_zero] at this
    show bv (List.replicate q 0 ++ A) * 2 ^ r = _
    rw [this, Nat.mul_assoc, ← Nat.pow_add]
  have hr2 : (2 : Nat) ^ r < 4294967296 := by
    rw [show 4294967296 = 2 ^ 32 from by decide]
    exact Nat.pow_lt_pow_right (by decide) hr
  have e3 : (2 : Int) ^ r % 4294967296 = ((2 ^ r : Nat) : Int) := by
    have e : ((2 : Int) ^ r) = ((2 ^ r : Nat) : Int) := (Int.natCast_pow 2 r).symm
    rw [e]
    generalize 2 ^ r = x at *
    omega
  have HS : Hid (B32 A) := h.small
  generalize bv A * 2 ^ (32 * q + r) = N at *
  generalize 32 * q + r = n at *
  generalize hx : 2 ^ r = x at *
  go_enter Tryz.func173, Tryz.ntmps173
  go_wp2_with fail
  go_loopw [5, 6] (fun v a wr => ∃ i : Nat, i ≤ q ∧ a = .int .i64 (i : Int) ∧ GB w.heap.size 160 pV w v (List.replicate i 0) wr) (fun _ a _ => q - (intOf a).toNat)
  case atStart => exact ⟨0, by omega, rfl, GB.new w⟩
  case round =>
    obtain ⟨i, hiq, rfl, hG⟩ := hrel
    by_cases hlt : i < q
    · have hlt' : (i : Int) < (q : Int) := by omega
      as_aux_lemma =>
        go_wp2_with (first | (at_builtin; refine wpList_append_own _ rfl _ _ 171 rfl w.heap.size 160 i0 (.int .u32 0) 1 4 Tryz.underlying171 hi hz0 hz1 hz2 rfl (by decide) _ _ _ rfl (hG.own.alloc _) ⟨_, 0, none⟩ 1 1 [_] rfl rfl (cell_one_new _ _ _) (by intro u hu; simp at hu; subst hu; rfl) (by unfold maxLen; rw [List.length_replicate]; omega) (by rw [List.length_replicate]; omega) (by have := hG.size; simp; omega) ?_; intro v' w7 hown hgrow hnil; have hG7 := hG.push (x := 0) _ rfl hown hgrow hnil; clear hown hgrow hnil))
        refine ⟨⟨i + 1, by omega, by go_num, ?_⟩, by simp [intOf]; omega⟩
        rw [List.replicate_succ']
        exact hG7
    · obtain rfl : i = q := by omega
      have hlt' : ¬ (i : Int) < (i : Int) := by omega
      have hRn := h.below hG.below
      as_aux_lemma =>
        go_wp2_with (first
          | (at_builtin; refine wpList_append_own _ rfl _ _ 171 rfl w.heap.size 160 i0 (.int .u32 0) 1 4 Tryz.underlying171 hi hz0 hz1 hz2 rfl (by decide) _ _ _ rfl hG.own ⟨b, o, none⟩ A.length cap (A.map pV) rfl (by simp) hRn.news (by intro u hu; obtain ⟨y, _, rfl⟩ := List.mem_map.1 hu; rfl) (by rw [List.length_replicate]; unfold maxLen; omega) (by rw [List.length_replicate]; omega) hG.size ?_; intro v' w7 hown hgrow hnil; have hG7 := hG.pushes hown rfl hgrow hnil; clear hown hgrow hnil)
          | (go_at_call 177
             obtain ⟨g, cap3, hv3, hgB, hRB⟩ := hG7.rowP (b32_zeros HS.out)
             subst hv3
             with_reducible refine (ntimes_rows _ g 0 cap3 _ x hr2 w7 hRB (by rw [List.length_append, List.length_replicate]; omega)).mono ?_
             rintro e w' ⟨v5, rfl, hb5, hbig⟩))
        go_ret
        rw [hpow.out] at hbig
        exact ⟨_, rfl, hG7.below.trans (hb5.mono hG7.size), hbig⟩
theorem nshift_any {W : World} {v : Value} {N : Nat} (n : Nat) (hn : n ≤ 30000) (h : BigAt W v N) (hs : Sm N) :
  Calls Tryz.prog 173 #[v, .int .i64 (n : Int)] W fun e w' => ∃ v, e = .returned v ∧ Below W.heap.size W w' ∧ BigAt w' v (N * 2 ^ n) := by
 obtain ⟨ao, b, o, cap, L, rfl, hR, rfl, hT⟩ := h
 by_cases hL : L = []
 ·subst hL
  have hz : Hid (BigAt W (.slice ao 0 cap) (bv [] * 2 ^ n)) := by
   show BigAt W (.slice ao 0 cap) (0 * 2 ^ n)
   rw [Nat.zero_mul]
   exact ⟨ao, b, o, cap, [], rfl, hR, rfl, hT⟩
  clear hR hs
  go_enter Tryz.func173, Tryz.ntmps173
  go_wp2_with fail
  go_ret
  exact ⟨_, rfl, Below.refl _ _, hz.out⟩
 ·have hlen := hs.len hT rfl
  have := nshift_rows ao b o cap L (n / 32) (n % 32) (by omega) (by omega) W hR (by omega) hL
  rw [show 32 * (n / 32) + n % 32 = n from by omega] at this
  exact this.mono fun e w' ⟨v, h1, h2, h3⟩ => ⟨v, h1, h2, h3.big⟩
end Go.Proofs.YtblkempemdlalaaGreatDoor.Rl
/- less, against: the document's whole numbers of layer 2. Own work of the verifier. -/
namespace Go.Proofs.YtblkempemdlalaaGreatDoor.Rl
open Go.RowKit Soft

theorem less_part (x y ow : Nat) (hx : x < 4294967296) (hy : y < 4294967296) (ho : ow ≤ 1) : ∃ p ow', p < 4294967296 ∧ ow' ≤ 1 ∧ p + y + ow = x + 4294967296 * ow' ∧ IntKind.u32.wrap (-(ow : Int) + (x : Int) - (y : Int)) = (p : Int) ∧ (-(ow : Int) + (x : Int) - (y : Int)) / 4294967296 = -(ow' : Int) := by
 by_cases h : y + ow ≤ x
 ·exact ⟨x - y - ow, 0, by omega, by omega, by omega, by rw [IntKind.wrap_u32']; omega, by omega⟩
 ·exact ⟨x + 4294967296 - y - ow, 1, by omega, by omega, by omega, by rw [IntKind.wrap_u32']; omega, by omega⟩
set_option maxHeartbeats 2000000 in
set_option maxRecDepth 100000 in
theorem nless_rows (ao : Option Addr) (b o cap : Nat) (A : List Nat) (ao2 : Option Addr) (b2 o2 cap2 : Nat) (C : List Nat) (w : World) (h : RB w ao b o cap A) (k : RB w ao2 b2 o2 cap2 C) (tC : Trm C) (hle : bv C ≤ bv A) (hl : A.length ≤ 1000000000) :
  Calls Tryz.prog 176 #[.slice ao A.length cap, .slice ao2 C.length cap2] w fun e w' => ∃ v, e = .returned v ∧ Below w.heap.size w w' ∧ BigIn w' v (bv A - bv C) := by
 obtain ⟨i0, hi, hz0, hz1, hz2⟩ := info_parts infoP
 have hCA := len_le tC h.small hle
 go_enter Tryz.func176, Tryz.ntmps176
 go_wp2_with fail
 go_loopw [5, 6, 7] (fun v cr a wr => ∃ (i ow : Nat) (O : List Nat), cr = .int .i64 (-(ow : Int)) ∧ a = .int .i64 (i : Int) ∧ ow ≤ 1 ∧ i ≤ A.length ∧ GB w.heap.size 160 pV w v O wr ∧ Hid (O.length = i ∧ B32 O ∧ bv O + lowP C i = lowP A i + 4294967296 ^ i * ow)) (fun _ _ a _ => (A.length - (intOf a).toNat))
 case atStart => exact ⟨0, 0, [], rfl, rfl, by omega, by omega, GB.new w, ⟨rfl, (fun x hx => by cases hx), by simp [bv, lowP]⟩⟩
 case round =>
  obtain ⟨i, ow, O, rfl, rfl, ho, hiA, hG, hH⟩ := hrel
  have hB := hG.below
  have hol : O.length = i := hH.out.1
  have HO : Hid (B32 O) := hH.out.2.1
  by_cases u1 : i < A.length
  ·obtain ⟨p, ow', hp, ho', he, s1, s2⟩ := less_part (pt A i) (pt C i) ow (pt_lt h.small i) (pt_lt k.small i) ho
   have HS : Hid (bv (O ++ [p]) + lowP C (i + 1) = lowP A (i + 1) + 4294967296 ^ (i + 1) * ow') := apart_step hol hH.out.2.2 (by omega) (by omega)
   obtain rfl := h.addr (by intro e; rw [e] at u1; simp at u1)
   have q1 : wr.cell? ⟨b, o + i, none⟩ = some (.int .u32 ((pt A i : Nat) : Int)) := by rw [pt_in u1]; exact (h.row.below hB (fun e => h.row.lt e)) i u1
   have v1 : (i : Int) < (A.length : Int) := by omega
   have hxA := pt_lt h.small i
   have hyC := pt_lt k.small i
   clear he
   by_cases u2 : i < C.length
   ·obtain rfl := k.addr (by intro e; rw [e] at u2; simp at u2)
    have q2 : wr.cell? ⟨b2, o2 + i, none⟩ = some (.int .u32 ((pt C i : Nat) : Int)) := by rw [pt_in u2]; exact (k.row.below hB (fun e => k.row.lt e)) i u2
    have v2 : (i : Int) < (C.length : Int) := by omega
    generalize pt A i = x at *
    generalize pt C i = y at *
    as_aux_lemma =>
     go_wp2_with (first | (at_builtin; refine wpList_append_own _ rfl _ _ 171 rfl w.heap.size 160 i0 (.int .u32 0) 1 4 Tryz.underlying171 hi hz0 hz1 hz2 rfl (by decide) _ _ _ rfl (hG.own.alloc _) ⟨_, 0, none⟩ 1 1 [_] rfl rfl (cell_one_new _ _ _) (by intro u hu; simp at hu; subst hu; rfl) (by unfold maxLen; omega) (by omega) (by have := hG.size; simp; omega) ?_; intro v' w7 hown hgrow hnil; have hG7 := hG.push (x := p) _ rfl hown hgrow hnil; clear hown hgrow hnil))
     exact ⟨⟨i + 1, ow', O ++ [p], rfl, by go_num, ho', by omega, hG7, ⟨by rw [List.length_append, hol]; rfl, b32_snoc HO.out hp, HS.out⟩⟩, by simp [intOf]; omega⟩
   ·have v2 : ¬ (i : Int) < (C.length : Int) := by omega
    rw [pt_out u2] at s1 s2
    rw [show ((0 : Nat) : Int) = 0 from rfl, Int.sub_zero] at s1 s2
    generalize pt A i = x at *
    as_aux_lemma =>
     go_wp2_with (first | (at_builtin; refine wpList_append_own _ rfl _ _ 171 rfl w.heap.size 160 i0 (.int .u32 0) 1 4 Tryz.underlying171 hi hz0 hz1 hz2 rfl (by decide) _ _ _ rfl (hG.own.alloc _) ⟨_, 0, none⟩ 1 1 [_] rfl rfl (cell_one_new _ _ _) (by intro u hu; simp at hu; subst hu; rfl) (by unfold maxLen; omega) (by omega) (by have := hG.size; simp; omega) ?_; intro v' w7 hown hgrow hnil; have hG7 := hG.push (x := p) _ rfl hown hgrow hnil; clear hown hgrow hnil))
     exact ⟨⟨i + 1, ow', O ++ [p], rfl, by go_num, ho', by omega, hG7, ⟨by rw [List.length_append, hol]; rfl, b32_snoc HO.out hp, HS.out⟩⟩, by simp [intOf]; omega⟩
  ·have v1 : ¬ (i : Int) < (A.length : Int) := by omega
   obtain rfl : i = A.length := by omega
   have hsum : bv O = bv A - bv C := apart_end hol HO.out h.small hle hCA ho hH.out.2.2
   obtain ⟨g, cap3, rfl, hgB, hRB⟩ := hG.rowP HO.out
   have hT := ntrim_in g 0 cap3 O wr hRB
   rw [hol] at hT
   as_aux_lemma =>
    go_wp2_with (go_at_call 200; with_reducible refine hT.mono ?_; rintro e w' ⟨v', rfl, rfl, hbig⟩)
    go_ret
    rw [hsum] at hbig
    exact ⟨_, rfl, hB, hbig⟩
end Go.Proofs.YtblkempemdlalaaGreatDoor.Rl
/- parts, against: the document's, of layer 2. Own work of the verifier. -/
namespace Go.Proofs.YtblkempemdlalaaGreatDoor.Rl
open Go.RowKit Soft

theorem ncompare_v {W : World} {v u : Value} {M N : Nat} (h : BigAt W v M) (k : BigAt W u N) (hM : Sm M) (hN : Sm N) :
  Calls Tryz.prog 175 #[v, u] W fun e w' => e = .returned (.int .i64 (cmpN M N)) ∧ Below W.heap.size W w' := by
 obtain ⟨ao, b, o, cap, L, rfl, hR, rfl, hT⟩ := h
 obtain ⟨ao2, b2, o2, cap2, L2, rfl, hR2, rfl, hT2⟩ := k
 have h1 := hM.len hT rfl
 have h2 := hN.len hT2 rfl
 exact (ncompare_rows ao b o cap L ao2 b2 o2 cap2 L2 W hR hR2 hT hT2 (by omega) (by omega)).mono fun e w' ⟨he, m, hw⟩ => ⟨he, by rw [hw]; exact Below.drewN' (Below.refl _ _) m⟩
def AG (c : Nat) (s : Int) (l : Nat) (k : Int) : Int := cmpN (c * 10 ^ s.toNat * 2 ^ (-k).toNat) (l * 10 ^ (-s).toNat * 2 ^ k.toNat)
def Made (W : World) (N : Nat) (e : Ending) (w' : World) : Prop := ∃ v, e = .returned v ∧ Below W.heap.size W w' ∧ BigAt w' v N
set_option maxHeartbeats 2000000 in
set_option maxRecDepth 100000 in
theorem against_any (c l : Nat) (s k : Int) (hc : c < 18446744073709551616) (hl : l < 18446744073709551616) (hs0 : -1100 ≤ s) (hs1 : s ≤ 1100) (hk0 : -5000 ≤ k) (hk1 : k ≤ 5000) (w : World) :
  Calls Tryz.prog 171 #[.int .u64 (c : Int), .int .i64 s, .int .u64 (l : Int), .int .i64 k] w fun e w' => e = .returned (.int .i64 (AG c s l k)) ∧ Below w.heap.size w w' := by
 have HO : Hid (∀ (x : Nat) (W : World), x < 18446744073709551616 → Calls Tryz.prog 172 #[.int .u64 (x : Int)] W fun e w' => Made W x e w') := fun x W hx => (nof_any x hx W).mono fun e w' ⟨v, h1, h2, h3⟩ => ⟨v, h1, h2, h3.big⟩
 have HT : Hid (∀ (n N : Nat) (v : Value) (W : World), n ≤ 1100 → N < 18446744073709551616 → BigAt W v N → Calls Tryz.prog 174 #[v, .int .i64 (n : Int)] W fun e w' => Made W (N * 10 ^ n) e w') := fun n N v W hn hN hv => ntens_any n v N (by omega) W hv ((sm_of N n 0 hN hn (by omega)).le (by rw [Nat.pow_zero, Nat.mul_one]; exact Nat.le_refl _)).nsh
 have HSh : Hid (∀ (n N : Nat) (v : Value) (W : World), n ≤ 5000 → Sm N → BigAt W v N → Calls Tryz.prog 173 #[v, .int .i64 (n : Int)] W fun e w' => Made W (N * 2 ^ n) e w') := fun n N v W hn hN hv => nshift_any n (by omega) hv hN
 have HC : Hid (∀ (M N : Nat) (v u : Value) (W : World), Sm M → Sm N → BigAt W v M → BigAt W u N → Calls Tryz.prog 175 #[v, u] W fun e w' => e = .returned (.int .i64 (cmpN M N)) ∧ Below W.heap.size W w') := fun M N v u W h1 h2 h3 h4 => ncompare_v h3 h4 h1 h2
 go_enter Tryz.func171, Tryz.ntmps171
 go_wp2_with fail
 refine (HO.out c _ hc).mono ?_
 rintro e w1 ⟨v1, rfl, hb1, hB1⟩
 go_wp2_with fail
 refine (HO.out l _ hl).mono ?_
 rintro e w2 ⟨v2, rfl, hb2, hB2⟩
 have hA2 := hB1.below hb2
 have hbw : Below w.heap.size w w2 := hb1.trans (hb2.mono hb1.size)
 clear hB1 hb1 hb2 HO
 go_upto_if 16 with fail
 go_cut [9, 10] from 11 (fun a b W => Hid (BigAt W a (c * 10 ^ s.toNat)) ∧ Hid (BigAt W b (l * 10 ^ (-s).toNat)) ∧ Below w.heap.size w W)
 case first =>
  by_cases hs : 0 ≤ s
  ·obtain ⟨n, rfl⟩ : ∃ n : Nat, s = (n : Int) := ⟨s.toNat, by omega⟩
   have e1 : (n : Int).toNat = n := by omega
   have e2 : (-(n : Int)).toNat = 0 := by omega
   have HT' : Hid _ := HT.out n c v1 w2 (by omega) hc hA2
   have HB2 : Hid (BigAt w2 v2 (l * 10 ^ (-(n : Int)).toNat)) := by rw [e2, Nat.pow_zero, Nat.mul_one]; exact hB2
   clear hA2 hB2
   as_aux_lemma =>
    go_wp2_with fail
    refine Calls.mono HT'.out ?_
    rintro e w3 ⟨v3, rfl, hb3, hB3⟩
    have HB3 : Hid (BigAt w3 v3 (c * 10 ^ ((n : Int)).toNat)) := by rw [e1]; exact hB3
    clear hB3
    go_wp2_with fail
    go_meet
    exact ⟨HB3, HB2.out.below hb3, hbw.trans (hb3.mono hbw.size)⟩
  ·obtain ⟨n, rfl⟩ : ∃ n : Nat, s = -(n : Int) := ⟨(-s).toNat, by omega⟩
   have e1 : (-(n : Int)).toNat = 0 := by omega
   have e2 : (- -(n : Int)).toNat = n := by omega
   have e3 : - -(n : Int) = (n : Int) := by omega
   have HT' : Hid _ := HT.out n l v2 w2 (by omega) hl hB2
   have HA2 : Hid (BigAt w2 v1 (c * 10 ^ (-(n : Int)).toNat)) := by rw [e1, Nat.pow_zero, Nat.mul_one]; exact hA2
   clear hA2 hB2
   as_aux_lemma =>
    go_wp2_with fail
    refine Calls.mono HT'.out ?_
    rintro e w3 ⟨v3, rfl, hb3, hB3⟩
    have HB3 : Hid (BigAt w3 v3 (l * 10 ^ (- -(n : Int)).toNat)) := by rw [e2]; exact hB3
    clear hB3
    go_wp2_with fail
    go_meet
    exact ⟨HA2.out.below hb3, HB3, hbw.trans (hb3.mono hbw.size)⟩
 case rest =>
 clear hA2 hB2 hbw HT
 obtain ⟨HA, HB, hbw⟩ := hcut
 have HSa : Hid (Sm (c * 10 ^ s.toNat) ∧ Sm (c * 10 ^ s.toNat * 2 ^ (-k).toNat)) := ⟨(sm_of c s.toNat 0 hc (by omega) (by omega)).le (by rw [Nat.pow_zero, Nat.mul_one]; exact Nat.le_refl _), sm_of c s.toNat _ hc (by omega) (by omega)⟩
 have HSb : Hid (Sm (l * 10 ^ (-s).toNat) ∧ Sm (l * 10 ^ (-s).toNat * 2 ^ k.toNat)) := ⟨(sm_of l (-s).toNat 0 hl (by omega) (by omega)).le (by rw [Nat.pow_zero, Nat.mul_one]; exact Nat.le_refl _), sm_of l (-s).toNat _ hl (by omega) (by omega)⟩
 obtain ⟨X, hX⟩ : ∃ X, X = c * 10 ^ s.toNat := ⟨_, rfl⟩
 obtain ⟨Y, hY⟩ : ∃ Y, Y = l * 10 ^ (-s).toNat := ⟨_, rfl⟩
 rw [← hX] at HA HSa
 rw [← hY] at HB HSb
 have HAG : Hid (cmpN (X * 2 ^ (-k).toNat) (Y * 2 ^ k.toNat) = AG c s l k) := by rw [hX, hY]; rfl
 clear hX hY
 go_upto_if 25 with fail
 go_cut [9, 10] from 11 (fun a b W => Hid (BigAt W a (X * 2 ^ (-k).toNat)) ∧ Hid (BigAt W b (Y * 2 ^ k.toNat)) ∧ Below w.heap.size w W)
 case first =>
  by_cases hk : 0 ≤ k
  ·obtain ⟨n, rfl⟩ : ∃ n : Nat, k = (n : Int) := ⟨k.toNat, by omega⟩
   have e1 : (n : Int).toNat = n := by omega
   have e2 : (-(n : Int)).toNat = 0 := by omega
   have HT' : Hid _ := HSh.out n Y u10 wc (by omega) HSb.out.1 HB.out
   have HA' : Hid (BigAt wc u9 (X * 2 ^ (-(n : Int)).toNat)) := by rw [e2, Nat.pow_zero, Nat.mul_one]; exact HA.out
   as_aux_lemma =>
    go_wp2_with fail
    refine Calls.mono HT'.out ?_
    rintro e w3 ⟨v3, rfl, hb3, hB3⟩
    have HB3 : Hid (BigAt w3 v3 (Y * 2 ^ ((n : Int)).toNat)) := by rw [e1]; exact hB3
    clear hB3
    go_wp2_with fail
    go_meet
    exact ⟨HA'.out.below hb3, HB3, hbw.trans (hb3.mono hbw.size)⟩
  ·obtain ⟨n, rfl⟩ : ∃ n : Nat, k = -(n : Int) := ⟨(-k).toNat, by omega⟩
   have e1 : (-(n : Int)).toNat = 0 := by omega
   have e2 : (- -(n : Int)).toNat = n := by omega
   have e3 : - -(n : Int) = (n : Int) := by omega
   have HT' : Hid _ := HSh.out n X u9 wc (by omega) HSa.out.1 HA.out
   have HB' : Hid (BigAt wc u10 (Y * 2 ^ (-(n : Int)).toNat)) := by rw [e1, Nat.pow_zero, Nat.mul_one]; exact HB.out
   as_aux_lemma =>
    go_wp2_with fail
    refine Calls.mono HT'.out ?_
    rintro e w3 ⟨v3, rfl, hb3, hB3⟩
    have HB3 : Hid (BigAt w3 v3 (X * 2 ^ (- -(n : Int)).toNat)) := by rw [e2]; exact hB3
    clear hB3
    go_wp2_with fail
    go_meet
    exact ⟨HB3, HB'.out.below hb3, hbw.trans (hb3.mono hbw.size)⟩
 case rest =>
 clear HA HB hbw HSh
 obtain ⟨HA, HB, hbw⟩ := hcut
 have HC' : Hid _ := HC.out _ _ _ _ wc HSa.out.2 HSb.out.2 HA.out HB.out
 clear HC HSa HSb HA HB
 rw [HAG.out] at HC'
 as_aux_lemma =>
  go_wp2_with fail
  refine Calls.mono HC'.out ?_
  rintro e w3 ⟨rfl, hb3⟩
  go_wp2_with fail
  go_ret
  exact ⟨rfl, hbw.trans (hb3.mono hbw.size)⟩
end Go.Proofs.YtblkempemdlalaaGreatDoor.Rl
/- parts, Side: the document's, of layer 2. Own work of the verifier. -/
namespace Go.Proofs.YtblkempemdlalaaGreatDoor.Rl
open Go.RowKit Soft

def pM (b : Nat) : Nat := if b / 4503599627370496 = 0 then b else b % 4503599627370496 + 4503599627370496
def pK (b : Nat) : Int := if b / 4503599627370496 = 0 then -1074 else (b / 4503599627370496 : Nat) - 1075
theorem pM_lt (b : Nat) : pM b < 9007199254740992 := by unfold pM; split <;> omega
theorem pM_pos (b : Nat) (h : 1 ≤ b) : 1 ≤ pM b := by unfold pM; split <;> omega
theorem pK_low (b : Nat) : -1074 ≤ pK b := by unfold pK; split <;> omega
theorem pK_high (b : Nat) (h : b < 9218868437227405312) : pK b ≤ 971 := by unfold pK; split <;> omega
set_option maxHeartbeats 1000000 in
theorem parts_any (b : Nat) (hb : b < 9218868437227405312) (w : World) :
  Calls Tryz.prog 170 #[.int .u64 (b : Int)] w fun e w' => e = .returned (.tuple #[.int .u64 (pM b : Int), .int .i64 (pK b)]) ∧ w' = w := by
 have hdiv : (b : Int) / 4503599627370496 = ((b / 4503599627370496 : Nat) : Int) := by omega
 have hand : bits .and .u64 (b : Int) 4503599627370495 = ((b % 4503599627370496 : Nat) : Int) := by
  have := u64_and_nat b 4503599627370495 (by omega) (by decide)
  rw [show (4503599627370495 : Nat) = 2 ^ 52 - 1 from by decide, Nat.and_two_pow_sub_one_eq_mod, show (2 : Nat) ^ 52 = 4503599627370496 from by decide] at this
  exact this
 have hor : bits .or .u64 ((b % 4503599627370496 : Nat) : Int) 4503599627370496 = ((b % 4503599627370496 + 4503599627370496 : Nat) : Int) := by
  have := u64_or_nat (b % 4503599627370496) 4503599627370496 (by omega) (by decide)
  rw [Nat.or_comm] at this
  rw [show (4503599627370496 : Nat) = 2 ^ 52 * 1 from by decide] at this
  rw [← Nat.two_pow_add_eq_or_of_lt (by rw [show (2 : Nat) ^ 52 = 4503599627370496 from by decide]; omega) 1] at this
  rw [show (2 : Nat) ^ 52 * 1 = 4503599627370496 from by decide, Nat.add_comm 4503599627370496] at this
  exact this
 unfold pM pK
 have h1 : b / 4503599627370496 < 2047 := by omega
 have h2 : b % 4503599627370496 < 4503599627370496 := by omega
 have HZ : Hid (b / 4503599627370496 = 0 → b % 4503599627370496 = b) := fun h => by omega
 generalize b / 4503599627370496 = q at *
 generalize b % 4503599627370496 = r at *
 rcases Nat.eq_zero_or_pos q with h0 | h0
 ·subst h0
  rw [if_pos rfl, if_pos rfl]
  obtain rfl := HZ.out rfl
  go_enter Tryz.func170, Tryz.ntmps170
  go_wp2_with fail
  go_ret2
  exact ⟨rfl, rfl⟩
 ·rw [if_neg (by omega), if_neg (by omega)]
  have hq : ((q : Int) == 0) = false := by rw [beq_eq_false_iff_ne]; omega
  go_enter Tryz.func170, Tryz.ntmps170
  go_wp2_with fail
  go_ret2
  exact ⟨rfl, rfl⟩
def lowM (b : Nat) : Nat := if pM b = 4503599627370496 ∧ 1 < b / 4503599627370496 then 4 * pM b - 1 else 4 * pM b - 2
theorem lowM_lt (b : Nat) : lowM b < 18446744073709551616 := by unfold lowM; have := pM_lt b; split <;> omega
def SideN (b c : Nat) (s : Int) : Int :=
 if AG c s (lowM b) (pK b - 2) < 0 ∨ AG c s (lowM b) (pK b - 2) = 0 ∧ pM b % 2 = 1 then -1
 else if 0 < AG c s (4 * pM b + 2) (pK b - 2) ∨ AG c s (4 * pM b + 2) (pK b - 2) = 0 ∧ pM b % 2 = 1 then 1 else 0
theorem cmpN_cases (a b : Nat) : cmpN a b = -1 ∨ cmpN a b = 0 ∨ cmpN a b = 1 := by
 unfold cmpN; split
 ·exact Or.inl rfl
 ·split
  ·exact Or.inr (Or.inr rfl)
  ·exact Or.inr (Or.inl rfl)
set_option maxHeartbeats 2000000 in
set_option maxRecDepth 100000 in
theorem side_any (b c : Nat) (s : Int) (hb0 : 1 ≤ b) (hb : b < 9218868437227405312) (hc : c < 18446744073709551616) (hs0 : -1100 ≤ s) (hs1 : s ≤ 1100) (w : World) :
    Calls Tryz.prog 136 #[.int .u64 (b : Int), .int .u64 (c : Int), .int .i64 s] w fun e w' => e = .returned (.int .i64 (SideN b c s)) ∧ Below w.heap.size w w' := by
  have HPa : Hid _ := fun W => parts_any b hb W
  have h1 := pM_lt b
  have h2 := pM_pos b hb0
  have h3 := pK_low b
  have h4 := pK_high b hb
  have h5 := lowM_lt b
  have HG1 : Hid _ := fun W => against_any c (lowM b) s (pK b - 2) hc h5 hs0 hs1 (by omega) (by omega) W
  have HG2 : Hid (∀ W, Calls Tryz.prog 171 #[.int .u64 (c : Int), .int .i64 s, .int .u64 (4 * (pM b : Int) + 2), .int .i64 (pK b - 2)] W fun e w' => e = .returned (.int .i64 (AG c s (4 * pM b + 2) (pK b - 2))) ∧ Below W.heap.size W w') := fun W => by
    have := against_any c (4 * pM b + 2) s (pK b - 2) hc (by omega) hs0 hs1 (by omega) (by omega) W
    rw [show ((4 * pM b + 2 : Nat) : Int) = 4 * (pM b : Int) + 2 from by omega] at this
    exact this
  have hdiv : (b : Int) / 4503599627370496 = ((b / 4503599627370496 : Nat) : Int) := by omega
  have HLo : Hid (lowM b = if pM b = 4503599627370496 ∧ 1 < b / 4503599627370496 then 4 * pM b - 1 else 4 * pM b - 2) := rfl
  have HSd : Hid (SideN b c s = if AG c s (lowM b) (pK b - 2) < 0 ∨ AG c s (lowM b) (pK b - 2) = 0 ∧ pM b % 2 = 1 then -1 else if 0 < AG c s (4 * pM b + 2) (pK b - 2) ∨ AG c s (4 * pM b + 2) (pK b - 2) = 0 ∧ pM b % 2 = 1 then 1 else 0) := rfl
  have c1 : AG c s (lowM b) (pK b - 2) = -1 ∨ AG c s (lowM b) (pK b - 2) = 0 ∨ AG c s (lowM b) (pK b - 2) = 1 := cmpN_cases _ _
  have c2 : AG c s (4 * pM b + 2) (pK b - 2) = -1 ∨ AG c s (4 * pM b + 2) (pK b - 2) = 0 ∨ AG c s (4 * pM b + 2) (pK b - 2) = 1 := cmpN_cases _ _
  have C1 : Hid _ := c1
  have C2 : Hid _ := c2
  clear c1 c2
  generalize AG c s (lowM b) (pK b - 2) = z1 at *
  generalize AG c s (4 * pM b + 2) (pK b - 2) = z2 at *
  generalize lowM b = lo at *
  generalize pM b = m at *
  generalize pK b = k at *
  generalize hq : b / 4503599627370496 = q at *
  generalize SideN b c s = SD at *
  go_enter Tryz.func136, Tryz.ntmps136
  go_wp2_with fail
  refine (HPa.out _).mono ?_
  rintro e w1 ⟨rfl, rfl⟩
  go_upto_region 3 with fail
  go_cut [26] from 12 (fun v W => ∃ bb : Bool, v = .bool bb ∧ Hid (bb = true ↔ m = 4503599627370496 ∧ 1 < q) ∧ W = w1)
  case first =>
    by_cases hm : m = 4503599627370496
    · have t1 : ((m : Int) == 4503599627370496) = true := by rw [beq_iff_eq]; omega
      have HM : Hid _ := hm
      clear hm
      as_aux_lemma =>
        go_wp2_with fail
        go_meet
        exact ⟨_, rfl, ⟨fun h => ⟨HM.out, by have := of_decide_eq_true h; omega⟩, fun h => decide_eq_true (by have := h.2; omega)⟩, rfl⟩
    · have t1 : ((m : Int) == 4503599627370496) = false := by rw [beq_eq_false_iff_ne]; omega
      as_aux_lemma =>
        go_wp2_with fail
        go_meet
        exact ⟨false, rfl, ⟨(fun h => by cases h), (fun h => absurd h.1 hm)⟩, rfl⟩
  case rest =>
  obtain ⟨bb, rfl, hbb, rfl⟩ := hcut
  go_upto_if 26 with fail
  go_cut [9] from 12 (fun v W => v = .int .u64 (lo : Int) ∧ W = wc)
  case first =>
    cases bb
    · have e : lo = 4 * m - 2 := by rw [HLo.out, if_neg (fun h => by have := hbb.out.2 h; cases this)]
      have e' : 4 * (m : Int) - 2 = (lo : Int) := by omega
      clear e
      as_aux_lemma =>
        go_wp2_with fail
        go_meet
        exact ⟨congrArg (Value.int .u64) e', rfl⟩
    · have e : lo = 4 * m - 1 := by rw [HLo.out, if_pos (hbb.out.1 rfl)]
      have e' : 4 * (m : Int) - 1 = (lo : Int) := by omega
      clear e
      as_aux_lemma =>
        go_wp2_with fail
        go_meet
        first | exact ⟨congrArg (Value.int .u64) e', rfl⟩ | exact ⟨rfl, rfl⟩
  case rest =>
  obtain ⟨rfl, rfl⟩ := hcut
  have hm2 : m % 2 = 0 ∨ m % 2 = 1 := by omega
  go_wp2_with fail
  refine (HG1.out _).mono ?_
  rintro e w2 ⟨rfl, hb2⟩
  rcases C1.out with h | h | h <;> rcases C2.out with g | g | g <;> rcases hm2 with e0 | e0 <;> (
    subst h
    subst g
    have hS := HSd.out
    simp [e0] at hS
    subst hS
    have t2 : ((m : Int) % 2) = ((m % 2 : Nat) : Int) := by omega
    rw [e0] at t2
    as_aux_lemma =>
      first
        | (go_wp2_with fail
           go_ret
           exact ⟨rfl, hb2⟩)
        | (go_wp2_with fail
           refine (HG2.out _).mono ?_
           rintro e w3 ⟨rfl, hb3⟩
           go_wp2_with fail
           go_ret
           exact ⟨rfl, hb2.trans (hb3.mono hb2.size)⟩))
end Go.Proofs.YtblkempemdlalaaGreatDoor.Rl
