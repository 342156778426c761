/- THE DOCUMENT's MACHINE: cells at first. Own work of the verifier. -/
import Derived.Test.YtfnohbalkpponaaGreatDoorZBC
import Derived.Test.YtfnohbalkpponaaGreatDoorZBB
import Derived.Test.YtfnohbalkpponaaGreatDoorZAQ
namespace Go.Proofs.YtfnohbalkpponaaGreatDoor
open Go.RowKit

/-- The cells of a kind, at first. -/
def frst (kind p : Int) : List Int := if kind = 1 then [0, 0] else if kind = 2 then List.replicate (Lg p + 2) 0 else sNil
end Go.Proofs.YtfnohbalkpponaaGreatDoor
/- THE DOCUMENT's MACHINE: an instrument, while it is made. Own work of the verifier. -/
namespace Go.Proofs.YtfnohbalkpponaaGreatDoor
open Go.RowKit

theorem RowD.lt {w : World} {g : Nat} {xs : List Int} (h : RowD w g xs) : g < w.heap.size := (Array.getElem?_eq_some_iff.1 h).1
theorem RowD.alloc {w : World} {g : Nat} {xs : List Int} (h : RowD w g xs) (o : Obj) : RowD (w.alloc o) g xs := by
  have hl := h.lt
  unfold RowD at *; exact ((bel1 w o).block g hl).trans h
theorem RowD.other {w : World} {g : Nat} {xs : List Int} (h : RowD w g xs) {a : Addr} (hn : g ≠ a.block) (v : Value) : RowD (w.setCell a v) g xs := by
  unfold RowD at *; rw [heap_setCell_other w a g v hn]; exact h
/-- The rows of one buffer, while they are laid. -/
structure DI (c b : Nat) (X : List Int) (W1 : World) (G : List Nat) (x : Value) (w : World) : Prop where
  cell : w.cell? ⟨c, 4 + b, none⟩ = some x
  own : w.ownsRow W1.heap.size 107 1 x G.length (G.map (slc X.length))
  rows : ∀ g ∈ G, RowD w g X
  ge : ∀ g ∈ G, W1.heap.size ≤ g
  nd : G.Nodup
  ap : ∀ k, x.ownBlock = some k → k ∉ G
  mid : Mid c (c + 1) W1 w
  oth : ∀ j, j ≠ 4 + b → w.cell? ⟨c, j, none⟩ = W1.cell? ⟨c, j, none⟩
  fr : ∀ j, w.frozen? ⟨c, j, none⟩ = false
  clt : c < W1.heap.size
theorem grown_rowD {W W' : World} {o : Option Nat} {g : Nat} {xs : List Int} (h : RowD W g xs) (hg : W.grownBy W' o) (hn : some g ≠ o) : RowD W' g xs := by
  have hl := h.lt
  unfold RowD at *; rw [hg.block g hl hn]; exact h
/-- One row more. -/
theorem DI.push {c b : Nat} {X : List Int} {W1 : World} {G : List Nat} {x : Value} {w w' : World} {g cap : Nat} (h : DI c b X W1 G x w) (t : TypeId)
    (hown : w'.ownsRow W1.heap.size 107 1 (.slice (some ⟨g, 0, none⟩) (G.length + 1) cap) (G.length + 1) (G.map (slc X.length) ++ [slc X.length w.heap.size]))
    (hgr : ((w.alloc (.cells (X.map fun x => Value.int .i64 x).toArray 2)).alloc (.cells #[slc X.length w.heap.size] t)).grownBy w' x.ownBlock) (hat : x.ownBlock = some g ∨ g = w.heap.size + 2) :
    DI c b X W1 (G ++ [w.heap.size]) (.slice (some ⟨g, 0, none⟩) (G.length + 1) cap) (w'.setCell ⟨c, 4 + b, none⟩ (.slice (some ⟨g, 0, none⟩) (G.length + 1) cap)) := by
  have hs := h.mid.size
  have hcl := h.clt
  have hxb : ∀ k, x.ownBlock = some k → W1.heap.size ≤ k ∧ k < w.heap.size := fun k hk => h.own.lt k hk
  have hgs : W1.heap.size ≤ g ∧ (g < w.heap.size ∨ g = w.heap.size + 2) := by
    rcases hat with k | k
    · have := hxb g k; omega
    · omega
  have hsz : w.heap.size + 2 ≤ w'.heap.size := by have := hgr.size; simp at this; omega
  have hnew : RowD w' w.heap.size X := by
    refine grown_rowD (W := (w.alloc _).alloc _) ?_ hgr (fun e => ?_)
    · exact RowD.alloc (by unfold RowD; exact new_1 w _) _
    · have := hxb w.heap.size e.symm; omega
  have hcx : some c ≠ x.ownBlock := fun e => by have := hxb c e.symm; omega
  have hcell : ∀ j, w'.cell? ⟨c, j, none⟩ = w.cell? ⟨c, j, none⟩ := fun j => by
    rw [hgr.cell_far ⟨c, j, none⟩ (by simp; omega) hcx]
    exact ((bel2 w _ _).cell (p := ⟨c, j, none⟩) (by show c < _; omega))
  have hfr : ∀ j, w'.frozen? ⟨c, j, none⟩ = w.frozen? ⟨c, j, none⟩ := fun j => by
    rw [hgr.frozen_far ⟨c, j, none⟩ (by simp; omega) hcx]
    exact ((bel2 w _ _).frozen (p := ⟨c, j, none⟩) (by show c < _; omega))
  have hold : ∀ k ∈ G, RowD w' k X := fun k hk =>
    grown_rowD (((h.rows k hk).alloc _).alloc _) hgr (fun e => h.ap k e.symm hk)
  have hGlt : ∀ k ∈ G, k < w.heap.size := fun k hk => (h.rows k hk).lt
  have hmid : Mid c (c + 1) W1 w' := by
    refine ⟨hgr.os.trans h.mid.os, hgr.tape.trans h.mid.tape, hgr.output.trans h.mid.output, by omega, fun k hk hn => ?_⟩
    rw [hgr.block k (by simp; omega) (fun e => by have := hxb k e.symm; omega), (bel2 w _ _).block k (by omega)]
    exact h.mid.block k hk hn
  refine ⟨World.cell?_setCell_same w' _ _ ((hcell (4 + b)).trans h.cell), ?_, ?_, ?_, ?_, ?_, hmid.setCell (p := ⟨c, 4 + b, none⟩) (Or.inl ⟨Nat.le_refl _, Nat.lt_succ_self _⟩) _, ?_, ?_, h.clt⟩
  · have e1 : (G ++ [w.heap.size]).length = G.length + 1 := by simp
    rw [e1, List.map_append]
    refine ⟨hown.1, ?_⟩
    rcases hown.2 with k | ⟨g2, cap2, cur, hv, hB, hh, hrest⟩
    · exact Or.inl k
    · refine Or.inr ⟨g2, cap2, cur, hv, hB, ?_, hrest⟩
      have : g = g2 := by injection hv with e; injection e with e; injection e
      rw [heap_setCell_other w' ⟨c, 4 + b, none⟩ g2 _ (by show g2 ≠ c; omega)]
      exact hh
  · intro k hk
    rcases List.mem_append.1 hk with hk | hk
    · exact (hold k hk).other (by have := h.ge k hk; show k ≠ c; omega) _
    · simp at hk; subst hk
      exact hnew.other (by show w.heap.size ≠ c; omega) _
  · intro k hk
    rcases List.mem_append.1 hk with hk | hk
    · exact h.ge k hk
    · simp at hk; omega
  · rw [List.nodup_append]
    refine ⟨h.nd, by simp, fun a ha b hb => ?_⟩
    simp at hb
    have := hGlt a ha
    omega
  · intro k hk hm
    have hk' : g = k := by simpa [Value.ownBlock] using hk
    subst hk'
    rcases List.mem_append.1 hm with hm | hm
    · rcases hat with e | e
      · exact h.ap g e hm
      · have := hGlt g hm; omega
    · simp at hm; omega
  · intro j hj
    rw [World.cell?_setCell_other w' ⟨c, 4 + b, none⟩ ⟨c, j, none⟩ _ (fun e => hj (by injection e with _ e2; exact e2.symm))]
    exact (hcell j).trans (h.oth j hj)
  · intro j
    rw [World.frozen?_setCell]
    exact (hfr j).trans (h.fr j)
end Go.Proofs.YtfnohbalkpponaaGreatDoor
/- PARTS: what the cells of a stripe held: a summary. Own work of the verifier. -/
namespace Go.Proofs.YtfnohbalkpponaaGreatDoor
open Go.RowKit

theorem RowD.cell {w : World} {g : Nat} {xs : List Int} (h : RowD w g xs) (i : Nat) (x : Int) (e : xs[i]? = some x) : w.cell? ⟨g, i, none⟩ = some (.int .i64 x) := by
  unfold RowD at h
  simp [World.cell?, h, e]
end Go.Proofs.YtfnohbalkpponaaGreatDoor
/- PARTS: what the cells of a stripe held: a summary that holds nothing. Own work of the verifier. -/
namespace Go.Proofs.YtfnohbalkpponaaGreatDoor
open Go.RowKit

end Go.Proofs.YtfnohbalkpponaaGreatDoor
/- FLOATS: the document's order is the code's, where no NaN is. Own work of the verifier. -/
namespace Go.Proofs.YtfnohbalkpponaaGreatDoor
open Go.RowKit

theorem key_rk {x : Nat} (h : ¬ Pr.isN x) : keyN x = Pr.rk x := by unfold keyN Pr.rk; rw [if_neg h]
theorem mn_key {x y : Nat} (hx : ¬ Pr.isN x) (hy : ¬ Pr.isN y) : mnF x y = if keyN x < keyN y then x else y := by
  unfold mnF
  rw [key_rk hx, key_rk hy]
  simp only [sg_lt]
theorem sg_pos {a b : Nat} : 0 < Pr.sg a b ↔ b < a := by unfold Pr.sg; split <;> (try split) <;> omega
theorem mx_key {x y : Nat} (hx : ¬ Pr.isN x) (hy : ¬ Pr.isN y) : mxF x y = if keyN y < keyN x then x else y := by
  unfold mxF
  rw [key_rk hx, key_rk hy]
  simp only [sg_pos]
end Go.Proofs.YtfnohbalkpponaaGreatDoor
/- WHAT FLOATS STAND FOR, in units of the least one; exact sums. Own work of the verifier. -/
namespace Go.Proofs.YtfnohbalkpponaaGreatDoor.Soft

/-- A whole number of units that a float of 53 bits can hold. -/
def Rep (N : Nat) : Prop := ∃ m k, N = m * 2 ^ k ∧ m < 9007199254740992
theorem rep_small {N : Nat} (h : N < 9007199254740992) : Rep N := ⟨N, 0, by simp, h⟩
theorem two_pow_52 : (2 : Nat) ^ 52 = 4503599627370496 := by decide
theorem two_pow_53 : (2 : Nat) ^ 53 = 9007199254740992 := by decide
/-- Above all finite floats. -/
def TOP : Nat := uV 9218868437227405312
theorem top_le {D : Nat} (h : 2046 ≤ D) : TOP ≤ 2 ^ (52 + D) := by
  unfold TOP uV
  rw [if_neg (by decide)]
  have hE : 9218868437227405312 / 4503599627370496 - 1 = 2046 := by decide
  have hF : 4503599627370496 + 9218868437227405312 % 4503599627370496 = 4503599627370496 := by decide
  rw [hF]
  generalize 9218868437227405312 / 4503599627370496 - 1 = E at *
  rw [Nat.pow_add, two_pow_52]
  exact Nat.mul_le_mul_left _ (Nat.pow_le_pow_right (by decide) (by omega))
/-- Such a number is hit by rounding. -/
theorem nr_rep {N : Nat} (h : Rep N) : uV (nr N) = N ∧ (N < TOP → nr N < 9218868437227405312) := by
  by_cases hs : N < 9007199254740992
  · have e : nr N = N := by unfold nr; rw [if_pos hs]
    rw [e]
    refine ⟨?_, fun _ => by omega⟩
    unfold uV
    by_cases h1 : N < 4503599627370496
    · rw [if_pos h1]
    · rw [if_neg h1, show N / 4503599627370496 - 1 = 0 from by omega]; omega
  · obtain ⟨m, k, rfl, hm⟩ := h
    have hN : m * 2 ^ k ≠ 0 := by omega
    have hlo := Nat.log2_self_le hN
    have hhi := Nat.lt_log2_self (n := m * 2 ^ k)
    have hL : 53 ≤ (m * 2 ^ k).log2 := (Nat.le_log2 hN).2 (by rw [two_pow_53]; omega)
    obtain ⟨D, hD⟩ : ∃ D, (m * 2 ^ k).log2 = 52 + D := ⟨(m * 2 ^ k).log2 - 52, by omega⟩
    have hDk : D ≤ k := by
      rcases Nat.lt_or_ge k D with c | c
      · exfalso
        have h1 : m * 2 ^ k < 2 ^ 53 * 2 ^ k := Nat.mul_lt_mul_of_pos_right (by rw [two_pow_53]; exact hm) (pow_pos' k)
        rw [← Nat.pow_add] at h1
        have h2 : 2 ^ (53 + k) ≤ 2 ^ (52 + D) := Nat.pow_le_pow_right (by decide) (by omega)
        rw [hD] at hlo
        omega
      · exact c
    have hq : m * 2 ^ k = m * 2 ^ (k - D) * 2 ^ D := by rw [Nat.mul_assoc, ← Nat.pow_add, show k - D + D = k from by omega]
    have e1 : rne (m * 2 ^ k) D = m * 2 ^ (k - D) := rne_mul m k D hDk
    have hp := pow_pos' D
    rw [hD] at hlo hhi
    rw [hq] at hlo hhi
    have hlo' : 4503599627370496 ≤ m * 2 ^ (k - D) := by
      rw [Nat.pow_add, two_pow_52] at hlo
      exact Nat.le_of_mul_le_mul_right hlo hp
    have hhi' : m * 2 ^ (k - D) < 9007199254740992 := by
      rw [show 52 + D + 1 = 53 + D from by omega, Nat.pow_add, two_pow_53] at hhi
      exact Nat.lt_of_mul_lt_mul_right hhi
    have e2 : nr (m * 2 ^ k) = D * 4503599627370496 + m * 2 ^ (k - D) := by
      unfold nr; rw [if_neg hs, hD, show 52 + D - 52 = D from by omega, e1]
    rw [e2]
    generalize m * 2 ^ (k - D) = q at *
    refine ⟨?_, ?_⟩
    · unfold uV
      rw [if_neg (by omega), show (D * 4503599627370496 + q) / 4503599627370496 - 1 = D from by omega, show 4503599627370496 + (D * 4503599627370496 + q) % 4503599627370496 = q from by omega, hq]
    · intro hlt
      have : D < 2046 := by
        rcases Nat.lt_or_ge D 2046 with c | c
        · exact c
        · exfalso
          have h1 := top_le c
          rw [← hq] at hlo
          omega
      omega
theorem nrung_rep {N : Nat} (h : Rep N) (hN : N < TOP) : uV (nrung N) = N ∧ nrung N < 9218868437227405312 := by
  obtain ⟨h1, h2⟩ := nr_rep h
  have h3 := h2 hN
  rw [nrung_nr, Nat.min_eq_left (by omega)]
  exact ⟨h1, h3⟩
end Go.Proofs.YtfnohbalkpponaaGreatDoor.Soft
/- WHAT FLOATS STAND FOR, in units of the least one: sums. Own work of the verifier. -/
namespace Go.Proofs.YtfnohbalkpponaaGreatDoor.Soft

/-- The float of a whole number of units: no -0. -/
def fw (z : Int) : Nat := sw (decide (z < 0)) (nrung z.natAbs)
/-- What a word of a finite float stands for. -/
def vw (x : Nat) : Int := if x < 9223372036854775808 then (uV x : Int) else -(uV (x - 9223372036854775808) : Int)
theorem vw_sw (s : Bool) {a : Nat} (h : a < 9223372036854775808) : vw (sw s a) = sv s a := by
  unfold vw sv sw
  cases s
  · simp only [Bool.false_eq_true, if_false]; rw [if_pos h]
  · simp only [if_true]; rw [if_neg (by omega), Nat.add_sub_cancel_left]
/-- A word of a finite float, and none of -0. -/
def Fin (x : Nat) : Prop := x < 18446744073709551616 ∧ x % 9223372036854775808 < 9218868437227405312
def Ok (x : Nat) : Prop := Fin x ∧ x ≠ 9223372036854775808
theorem fin_sw {s : Bool} {a : Nat} (h : a < 9218868437227405312) : Fin (sw s a) := ⟨sw_lt s (by omega), by rw [sw_mod s (by omega)]; exact h⟩
theorem fin_cases {x : Nat} (h : Fin x) : ∃ s a, x = sw s a ∧ a < 9218868437227405312 := by
  obtain ⟨s, a, rfl, ha⟩ := sw_of x h.1
  exact ⟨s, a, rfl, by have := h.2; rw [sw_mod s ha] at this; exact this⟩
theorem uV_eq_zero {a : Nat} (h : uV a = 0) : a = 0 := by
  rcases Nat.eq_zero_or_pos a with k | k
  · exact k
  · have := uV_pos k; omega
theorem sw_t0 : sw true 0 = 9223372036854775808 := by decide +kernel
/-- The sum, by what they stand for. -/
theorem fa_fw {x y : Nat} (hx : Fin x) (hy : Fin y) (h : x ≠ 9223372036854775808 ∨ y ≠ 9223372036854775808) : fa x y = fw (vw x + vw y) := by
  obtain ⟨s, a, rfl, ha⟩ := fin_cases hx
  obtain ⟨t, b, rfl, hb⟩ := fin_cases hy
  unfold fa
  rw [add_fin s t a b ha hb, vw_sw s (by omega), vw_sw t (by omega)]
  show addW s t a b = _
  unfold addW fw
  by_cases hz : sv s a + sv t b = 0
  · rw [if_pos hz, hz]
    have : (s && t) = false := by
      cases s <;> cases t <;> try rfl
      exfalso
      unfold sv at hz
      simp only [if_true] at hz
      have e1 : a = 0 := uV_eq_zero (by omega)
      have e2 : b = 0 := uV_eq_zero (by omega)
      subst e1; subst e2
      rcases h with h | h <;> exact h sw_t0
    rw [this, decide_eq_false (by omega), show (0 : Int).natAbs = 0 from rfl, nrung_zero]
  · rw [if_neg hz]
theorem nrung_big {N : Nat} (h : 9007199254740992 ≤ N) (h0 : nrung N = 0) : False := by
  have h3 : nr N = 0 := by
    rw [nrung_nr] at h0
    rcases Nat.le_total (nr N) 9218868437227405312 with c | c
    · rw [Nat.min_eq_left c] at h0; exact h0
    · rw [Nat.min_eq_right c] at h0; exact absurd h0 (by decide)
  unfold nr at h3
  rw [if_neg (by omega)] at h3
  have hlog : 53 ≤ N.log2 := (Nat.le_log2 (by omega)).2 (by rw [two_pow_53]; exact h)
  have h4 : N.log2 - 52 = 0 := by
    rcases Nat.eq_zero_or_pos (N.log2 - 52) with c | c
    · exact c
    · have := Nat.le_mul_of_pos_left 4503599627370496 c; omega
  omega
theorem sw_f0 : sw false 0 = 0 := by decide +kernel
theorem sw_ne {s : Bool} {a : Nat} (ha : a < 9223372036854775808) (h : s = true → a ≠ 0) : sw s a ≠ 9223372036854775808 := by
  intro e
  have m := sw_mod s ha
  rw [e, Nat.mod_self] at m
  subst m
  cases s
  · rw [sw_f0] at e; exact absurd e (by decide)
  · exact h rfl rfl
theorem nrung_ne {N : Nat} (h : N ≠ 0) : nrung N ≠ 0 := by
  intro e
  rcases Nat.lt_or_ge N 9007199254740992 with c | c
  · rw [nrung_small c] at e; exact h e
  · exact nrung_big c e
theorem fw_ok {z : Int} (h : nrung z.natAbs < 9218868437227405312) : Ok (fw z) := by
  refine ⟨fin_sw h, ?_⟩
  exact sw_ne (by omega) (fun hz => nrung_ne (by have := of_decide_eq_true hz; omega))
theorem vw_fw {z : Int} (h : Rep z.natAbs) (hN : z.natAbs < TOP) : vw (fw z) = z ∧ Ok (fw z) := by
  obtain ⟨h1, h2⟩ := nrung_rep h hN
  refine ⟨?_, fw_ok h2⟩
  unfold fw
  rw [vw_sw _ (by omega)]
  unfold sv
  rw [h1]
  by_cases hz : z < 0
  · rw [decide_eq_true hz, if_pos rfl]; omega
  · rw [decide_eq_false hz, if_neg (by decide)]; omega
theorem vw_neg {x : Nat} (h : x < 18446744073709551616) : vw (neg x) = - vw x := by
  obtain ⟨s, a, rfl, ha⟩ := sw_of x h
  rw [neg_sw s ha, vw_sw _ ha, vw_sw _ ha]
  unfold sv; cases s <;> simp
theorem fin_neg {x : Nat} (h : Fin x) : Fin (neg x) := by
  obtain ⟨s, a, rfl, ha⟩ := fin_cases h
  rw [neg_sw s (by omega)]
  exact fin_sw ha
end Go.Proofs.YtfnohbalkpponaaGreatDoor.Soft
/- WHOLE NUMBERS AS FLOATS; one float alone. Own work of the verifier. -/
namespace Go.Proofs.YtfnohbalkpponaaGreatDoor.Soft

theorem top_ge {D : Nat} (h : D ≤ 2046) : 2 ^ (52 + D) ≤ TOP := by
  unfold TOP uV
  rw [if_neg (by decide)]
  have hE : 9218868437227405312 / 4503599627370496 - 1 = 2046 := by decide
  have hF : 4503599627370496 + 9218868437227405312 % 4503599627370496 = 4503599627370496 := by decide
  rw [hF]
  generalize 9218868437227405312 / 4503599627370496 - 1 = E at *
  rw [Nat.pow_add, two_pow_52]
  exact Nat.mul_le_mul_left _ (Nat.pow_le_pow_right (by decide) (by omega))
theorem fin_not_nan {x : Nat} (h : Fin x) : isn x = false := by
  unfold isn; exact decide_eq_false (by have := h.2; omega)
theorem fin_zero : Fin 0 := ⟨by decide, by decide⟩
theorem ok_zero : Ok 0 := ⟨fin_zero, by decide⟩
theorem vw_zero : vw 0 = 0 := by decide +kernel
end Go.Proofs.YtfnohbalkpponaaGreatDoor.Soft
/- ROUNDING: how far off, and what is nearest. Own work of the verifier. -/
namespace Go.Proofs.YtfnohbalkpponaaGreatDoor.Soft

/-- Rounding to a multiple of 2^D: nearer than any other multiple. -/
theorem rne_near (N D c : Nat) : (((rne N D * 2 ^ D : Nat) : Int) - (N : Int)).natAbs ≤ (((c * 2 ^ D : Nat) : Int) - (N : Int)).natAbs ∧ 2 * (((rne N D * 2 ^ D : Nat) : Int) - (N : Int)).natAbs ≤ 2 ^ D := by
  have hp := pow_pos' D
  have hd := Nat.div_add_mod N (2 ^ D)
  have hm := Nat.mod_lt N hp
  have hc : c ≤ N / 2 ^ D ∧ c * 2 ^ D ≤ N / 2 ^ D * 2 ^ D ∨ N / 2 ^ D + 1 ≤ c ∧ (N / 2 ^ D + 1) * 2 ^ D ≤ c * 2 ^ D := by
    rcases Nat.lt_or_ge (N / 2 ^ D) c with k | k
    · exact .inr ⟨k, Nat.mul_le_mul_right _ k⟩
    · exact .inl ⟨k, Nat.mul_le_mul_right _ k⟩
  rw [Nat.mul_comm] at hd
  have e1 : (N / 2 ^ D + 1) * 2 ^ D = N / 2 ^ D * 2 ^ D + 2 ^ D := by rw [Nat.add_mul, Nat.one_mul]
  unfold rne
  by_cases h : 2 ^ D < 2 * (N % 2 ^ D) ∨ 2 ^ D = 2 * (N % 2 ^ D) ∧ N / 2 ^ D % 2 = 1
  · rw [if_pos h, e1]
    rw [e1] at hc
    have h' : 2 ^ D ≤ 2 * (N % 2 ^ D) := by omega
    clear h
    generalize N / 2 ^ D * 2 ^ D = Q at *
    generalize c * 2 ^ D = C at *
    generalize N % 2 ^ D = r at *
    generalize 2 ^ D = P at *
    omega
  · rw [if_neg h, Nat.add_zero]
    rw [e1] at hc
    have h' : 2 * (N % 2 ^ D) ≤ 2 ^ D := by omega
    clear h
    generalize N / 2 ^ D * 2 ^ D = Q at *
    generalize c * 2 ^ D = C at *
    generalize N % 2 ^ D = r at *
    generalize 2 ^ D = P at *
    omega
/-- What rounding makes of a whole number of units. -/
def rN (N : Nat) : Nat := uV (nr N)
theorem rN_small {N : Nat} (h : N < 9007199254740992) : rN N = N := (nr_rep (rep_small h)).1
/-- Of a great number: the exponent, and the bits. -/
theorem rN_big {N : Nat} (h : 9007199254740992 ≤ N) : ∃ D, 1 ≤ D ∧ 2 ^ (52 + D) ≤ N ∧ N < 2 ^ (53 + D) ∧ rN N = rne N D * 2 ^ D ∧ nr N = D * 4503599627370496 + rne N D ∧ rne N D ≤ 9007199254740992 := by
  have hN : N ≠ 0 := by omega
  have hlo := Nat.log2_self_le hN
  have hhi := Nat.lt_log2_self (n := N)
  have hL : 53 ≤ N.log2 := (Nat.le_log2 hN).2 (by rw [two_pow_53]; exact h)
  obtain ⟨D, hD⟩ : ∃ D, N.log2 = 52 + D := ⟨N.log2 - 52, by omega⟩
  rw [hD] at hlo hhi
  have hp := pow_pos' D
  have hq0 : 4503599627370496 ≤ N / 2 ^ D := by
    rw [Nat.pow_add, two_pow_52] at hlo
    exact (Nat.le_div_iff_mul_le hp).2 hlo
  have hq1 : N / 2 ^ D < 9007199254740992 := by
    rw [show 52 + D + 1 = 53 + D from by omega, Nat.pow_add, two_pow_53] at hhi
    exact (Nat.div_lt_iff_lt_mul hp).2 hhi
  have hr : rne N D = N / 2 ^ D ∨ rne N D = N / 2 ^ D + 1 := by unfold rne; split <;> simp
  have e2 : nr N = D * 4503599627370496 + rne N D := by
    unfold nr; rw [if_neg (by omega), hD, show 52 + D - 52 = D from by omega]
  refine ⟨D, by omega, hlo, by rw [show 53 + D = 52 + D + 1 from by omega]; exact hhi, ?_, e2, by omega⟩
  unfold rN
  rw [e2]
  generalize rne N D = q at *
  have hq : 4503599627370496 ≤ q ∧ q ≤ 9007199254740992 := by omega
  clear hr e2 hlo hhi hL hD
  unfold uV
  rw [if_neg (by omega)]
  rcases Nat.lt_or_eq_of_le hq.2 with c | c
  · rw [show (D * 4503599627370496 + q) / 4503599627370496 - 1 = D from by omega, show 4503599627370496 + (D * 4503599627370496 + q) % 4503599627370496 = q from by omega]
  · subst c
    rw [show (D * 4503599627370496 + 9007199254740992) / 4503599627370496 - 1 = D + 1 from by omega, show 4503599627370496 + (D * 4503599627370496 + 9007199254740992) % 4503599627370496 = 4503599627370496 from by omega, Nat.pow_succ]
    generalize 2 ^ D = P
    omega
/-- The error of rounding, against the number. -/
theorem rN_err (N : Nat) : 9007199254740992 * ((rN N : Int) - (N : Int)).natAbs ≤ N := by
  rcases Nat.lt_or_ge N 9007199254740992 with h | h
  · rw [rN_small h]; omega
  · obtain ⟨D, _, h1, _, h3, _⟩ := rN_big h
    have h4 := (rne_near N D 0).2
    rw [h3]
    generalize (((rne N D * 2 ^ D : Nat) : Int) - (N : Int)).natAbs = e at *
    rw [Nat.pow_add, two_pow_52] at h1
    generalize 2 ^ D = P at *
    omega
/-- No float is too great for its number of units. -/
theorem rN_top {N : Nat} (h : 4 * N < TOP) : nrung N = nr N ∧ nr N < 9218868437227405312 := by
  have key : nr N < 9218868437227405312 := by
    rcases Nat.lt_or_ge N 9007199254740992 with c | c
    · have : nr N = N := by unfold nr; rw [if_pos c]
      omega
    · obtain ⟨D, _, h1, _, _, h4, h5⟩ := rN_big c
      have : D < 2044 := by
        rcases Nat.lt_or_ge D 2044 with k | k
        · exact k
        · exfalso
          have h6 := top_le (D := D + 2) (by omega)
          rw [show 52 + (D + 2) = 52 + D + 2 from by omega, Nat.pow_add] at h6
          have e4 : (2 : Nat) ^ 2 = 4 := by decide
          rw [e4] at h6
          clear e4
          generalize 2 ^ (52 + D) = Z at *
          omega
      omega
  exact ⟨by rw [nrung_nr, Nat.min_eq_left (by omega)], key⟩
end Go.Proofs.YtfnohbalkpponaaGreatDoor.Soft
