/- TIMES 2 TO THE n; products with numbers of 62 bits; the magnitude of a float. Own work of the verifier. -/
import Derived.Test.YtdlaloakochfeaaB4
import Derived.Laws.ShiftsVarLaws
import Derived.Laws.OwnMore
namespace Go.Proofs.Ytdlaloakochfeaa
open Go.RowKit Soft

theorem zeros_bv (q : Nat) : bv (List.replicate q 0) = 0 := by
  induction q with
  | zero => rfl
  | succ q ih => rw [List.replicate_succ]; show 0 + 4294967296 * bv (List.replicate q 0) = 0; rw [ih]
theorem up_bv (q r a : Nat) (T : List Nat) (h : bv T = a * 2 ^ r) : bv (List.replicate q 0 ++ T) = a * 2 ^ (32 * q + r) := by
  rw [bv_append, zeros_bv, List.length_replicate, h, Nat.zero_add, Nat.pow_add, Nat.pow_mul, show 2 ^ 32 = 4294967296 from by decide]
  rw [← Nat.mul_assoc, ← Nat.mul_assoc, Nat.mul_comm a]
theorem b32_zeros {q : Nat} {T : List Nat} (h : B32 T) : B32 (List.replicate q 0 ++ T) := fun x hx => by
  rcases List.mem_append.1 hx with k | k
  · rw [(List.mem_replicate.1 k).2]; decide
  · exact h x k
theorem madeZ (q : Nat) : (madeCells (Value.int .u32 0).cells (q * 1)).toList = (List.replicate q 0).map pV := by
  have e : (Value.int .u32 0).cells = #[Value.int .u32 0] := rfl
  rw [e]
  apply List.ext_getElem
  · simp [madeCells]
  · intro i h1 h2
    simp [madeCells, pV, Nat.mod_one]
theorem len_times {A T : List Nat} {n : Nat} (hA : B32 A) (hT : Trm T) (hn : n < 4294967296) (h : bv T = bv A * n) : T.length ≤ A.length + 1 := by
  rcases Nat.lt_or_ge (A.length + 1) T.length with c | c
  · exfalso
    have h1 := bv_ge hT (fun e => by rw [e] at c; simp at c)
    have h2 := bv_lt hA
    have h3 : 4294967296 ^ (A.length + 1) ≤ 4294967296 ^ (T.length - 1) := Nat.pow_le_pow_right (by decide) (by omega)
    have h4 : bv A * n ≤ bv A * 4294967296 := Nat.mul_le_mul_left _ (by omega)
    rw [Nat.pow_succ] at h3
    generalize 4294967296 ^ A.length = P at *
    omega
  · exact c
/-- A row that grows by many. -/
theorem GB.pushes {B : Nat} {e : TypeId} {f : Nat → Value} {W0 w w' : World} {v v' : Value} {xs ys : List Nat} {m : Nat} (h : GB B e f W0 v xs w)
    (hown : w'.ownsRow B e 1 v' (xs.length + m) (xs.map f ++ ys.map f)) (hm : ys.length = m) (hg : w.grownBy w' v.ownBlock) (hnil : v' = .slice none 0 0 ↔ v = .slice none 0 0 ∧ m = 0) : GB B e f W0 v' (xs ++ ys) w' := by
  obtain ⟨gv, cap, cur, rfl, hB, hcur, _⟩ := own_of h.own h.nz
  have hg' : w.grownBy w' (some gv) := hg
  have s2 := hg'.size
  refine ⟨?_, fun e => h.nz (hnil.1 e).1, ?_, by have := h.size; omega⟩
  · rw [List.length_append, List.map_append, hm]; exact hown
  · exact h.below.grown hg' h.size (fun k e => by cases e; exact hB)
theorem GB.under {B : Nat} {e : TypeId} {f : Nat → Value} {W0 w w' : World} {v : Value} {xs : List Nat} (h : GB B e f W0 v xs w) (hb : Below w.heap.size w w') : GB B e f W0 v xs w' := by
  obtain ⟨g, cap, cur, hv, hB, hcur, h1, h2, h3, h4⟩ := own_of h.own h.nz
  have hs := hb.size
  have hlt : g < w.heap.size := by
    rcases Nat.lt_or_ge g w.heap.size with c | c
    · exact c
    · rw [Array.getElem?_eq_none c] at hcur; cases hcur
  refine ⟨⟨h.own.1, .inr ⟨g, cap, cur, hv, hB, ?_, h1, h2, by simpa using h3, by simpa using h4⟩⟩, h.nz, h.below.trans (hb.mono h.size), by have := h.size; omega⟩
  rw [hb.block g hlt]; exact hcur
theorem RB.news {W : World} {b o cap : Nat} {L : List Nat} (h : RB W (some ⟨b, o, none⟩) b o cap L) : ∀ j u, (L.map pV)[j]? = some u → W.cell? ((⟨b, o, none⟩ : Addr).add j) = some u := by
  intro j u hu
  rw [List.getElem?_map] at hu
  cases hj : L[j]? with
  | none => rw [hj] at hu; cases hu
  | some x =>
    rw [hj] at hu
    obtain ⟨hl, hx⟩ := List.getElem?_eq_some_iff.1 hj
    cases hu
    have := h.row j hl
    rw [hx] at this
    unfold Addr.add
    by_cases h0 : j = 0
    · subst h0; exact this
    · rw [if_neg h0]; exact this

set_option maxHeartbeats 2000000 in
theorem up_rows (ao : Option Addr) (b o cap : Nat) (A : List Nat) (q r : Nat) (hq : q ≤ 100) (hr : r < 32) (w : World) (h : RB w ao b o cap A) (hl : A.length ≤ 100000000) :
    Calls Try.prog 25 #[.slice ao A.length cap, .int .i64 ((32 * q + r : Nat) : Int)] w fun e w' => ∃ v, e = .returned v ∧ Below w.heap.size w w' ∧ BigIn w' v (bv A * 2 ^ (32 * q + r)) := by
  obtain ⟨i0, hi, hz0, hz1, hz2⟩ := info_parts infoP
  have e1 : ((32 * q + r : Nat) : Int) / 32 = (q : Int) := by omega
  have e2 : ((32 * q + r : Nat) : Int) % 32 = (r : Int) := by omega
  have hn0 : (0 : Int) ≤ ((32 * q + r : Nat) : Int) := by omega
  have hn1 : ((32 * q + r : Nat) : Int) < 10000 := by omega
  have hpow : Hid (∀ T, bv T = bv A * 2 ^ r → bv (List.replicate q 0 ++ T) = bv A * 2 ^ (32 * q + r)) := fun T hT => up_bv q r _ T hT
  have hr2 : (2 : Nat) ^ r < 4294967296 := by
    rw [show 4294967296 = 2 ^ 32 from by decide]
    exact Nat.pow_lt_pow_right (by decide) hr
  have e3 : (2 : Int) ^ r % 4294967296 = ((2 ^ r : Nat) : Int) := by
    have e : ((2 : Int) ^ r) = ((2 ^ r : Nat) : Int) := (Int.natCast_pow 2 r).symm
    rw [e]
    generalize 2 ^ r = x at *
    omega
  generalize bv A * 2 ^ (32 * q + r) = N at *
  generalize 32 * q + r = n at *
  obtain ⟨w1, hrun, hown, hgr⟩ := run_makeSlice_full (P := Try.prog) (w := w) w.heap.size 27 44 i0 (.int .u32 0) 1 Try.underlying27 hi hz0 hz1 .i64 .i64 q (by omega) (by rw [hz2]; omega) (by unfold maxLen; omega) (Nat.le_refl _)
  rw [madeZ] at hown
  have hG0 : GB w.heap.size 44 pV w (.slice (some ⟨w.heap.size, 0, none⟩) q q) (List.replicate q 0) w1 := by
    refine ⟨by rw [List.length_replicate]; exact hown, (fun k => by cases k), (Below.refl _ _).grown hgr (Nat.le_refl _) (fun k e => by cases e), hgr.size⟩
  clear hown
  have hB1 := hG0.below
  have hT := times_rows ao b o cap A (2 ^ r) hr2 w1 (h.below hB1) (by omega)
  generalize 2 ^ r = x at *
  have hpow2 : Hid (B32 A) := h.small
  go_enter Try.func25, Try.ntmps25
  go_wp2_with (first
    | simp only
    | (go_at_call 24; with_reducible refine hT.mono ?_; rintro e w2 ⟨v2, rfl, hB2, hI2⟩; unfold BigIn at hI2; obtain ⟨b2, o2, cap2, T, hv2, hR2, hbv, hTrm⟩ := hI2; subst hv2
       have hlT : T.length ≤ A.length + 1 := len_times hpow2.out hTrm hr2 hbv
       have hG2 := hG0.under hB2
       have HT : Hid (bv T = bv A * x) := hbv
       clear hbv)
    | (at_builtin; refine wpList_append_own _ rfl _ _ 27 rfl w.heap.size 44 i0 (.int .u32 0) 1 4 Try.underlying27 hi hz0 hz1 hz2 rfl (by decide) _ _ _ rfl hG2.own ⟨b2, o2, none⟩ T.length cap2 (T.map pV) rfl (by simp) hR2.news (by intro u hu; obtain ⟨y, _, rfl⟩ := List.mem_map.1 hu; rfl) (by rw [List.length_replicate]; unfold maxLen; omega) (by rw [List.length_replicate]; omega) hG2.size ?_
       intro v' w7 hown hgrow hnil
       have hG7 := hG2.pushes hown rfl hgrow hnil
       clear hown hgrow hnil)
    | (go_at_call 29; obtain ⟨g, cap3, hv3, hgB, hRB⟩ := hG7.rowP (b32_zeros hR2.small); subst hv3; with_reducible refine (trim_in g 0 cap3 _ w7 hRB).mono ?_; rintro e w' ⟨v5, rfl, rfl, hbig⟩))
  go_ret
  rw [hpow.out T HT.out] at hbig
  exact ⟨_, rfl, hG7.below, hbig⟩
end Go.Proofs.Ytdlaloakochfeaa
