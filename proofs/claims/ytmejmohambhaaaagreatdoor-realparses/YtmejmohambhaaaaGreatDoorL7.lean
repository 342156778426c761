/- THE TEXT WITH AN EXPONENT, as the library writes it. Own work of the verifier. -/
import Derived.Test.YtmejmohambhaaaaGreatDoorL6
namespace Go.Proofs.YtmejmohambhaaaaGreatDoor
open Go.RowKit Go.Sort

/-- The digits as numbers. -/
def dI (u : Nat) : List Int := (Lib.decDigits u).map fun b => (b.toNat : Int)
theorem dI_length (u : Nat) : (dI u).length = Lib.nDigits u := by rw [dI, List.length_map, Lib.decDigits_length]
theorem DigAt.int {g u : Nat} {w : World} (h : DigAt g u w) (j : Nat) (hj : j < (dI u).length) : w.cell? ⟨g, j, none⟩ = some (.int .u8 ((dI u)[j])) := by
  have hj' : j < (Lib.decDigits u).length := by simpa [dI] using hj
  rw [h.cell j hj']
  simp [dI, byteV]
theorem cell_two_new (w : World) (x y : Value) (t : TypeId) : ∀ j u, [x, y][j]? = some u → (w.alloc (.cells #[x, y] t)).cell? ((⟨w.heap.size, 0, none⟩ : Addr).add j) = some u := by
  intro j u hj
  match j, hj with
  | 0, hj => simp at hj; subst hj; simp [go_sem]
  | 1, hj => simp at hj; subst hj; simp [go_sem]
  | k + 2, hj => simp at hj
theorem cell_three_new (w : World) (x y z : Value) (t : TypeId) : ∀ j u, [x, y, z][j]? = some u → (w.alloc (.cells #[x, y, z] t)).cell? ((⟨w.heap.size, 0, none⟩ : Addr).add j) = some u := by
  intro j u hj
  match j, hj with
  | 0, hj => simp at hj; subst hj; simp [go_sem]
  | 1, hj => simp at hj; subst hj; simp [go_sem]
  | 2, hj => simp at hj; subst hj; simp [go_sem]
  | k + 3, hj => simp at hj
theorem Buf.push2 {B : Nat} {o : Option (Nat × Nat)} {W0 w w' : World} {v v' : Value} {zs : List Int} {x y : Int} (h : Buf B o W0 v zs w) (ob : Obj)
    (hown : w'.ownsRow B 5 1 v' (zs.length + 2) (zs.map (Value.int .u8) ++ [.int .u8 x, .int .u8 y])) (hg : (w.alloc ob).grownBy w' v.ownBlock) (hnil : v' = .slice none 0 0 ↔ v = .slice none 0 0 ∧ 2 = 0) (hl : (zs ++ [x, y]).length ≤ 1000) : Buf B o W0 v' (zs ++ [x, y]) w' :=
  h.grow (World.grownBy_alloc w ob none) 2 rfl hown hg hnil hl
theorem Buf.push3 {B : Nat} {o : Option (Nat × Nat)} {W0 w w' : World} {v v' : Value} {zs : List Int} {x y z : Int} (h : Buf B o W0 v zs w) (ob : Obj)
    (hown : w'.ownsRow B 5 1 v' (zs.length + 3) (zs.map (Value.int .u8) ++ [.int .u8 x, .int .u8 y, .int .u8 z])) (hg : (w.alloc ob).grownBy w' v.ownBlock) (hnil : v' = .slice none 0 0 ↔ v = .slice none 0 0 ∧ 3 = 0) (hl : (zs ++ [x, y, z]).length ≤ 1000) : Buf B o W0 v' (zs ++ [x, y, z]) w' :=
  h.grow (World.grownBy_alloc w ob none) 3 rfl hown hg hnil hl
theorem Buf.mid {B g u : Nat} {W0 w : World} {v : Value} {zs mid : List Int} (h : Buf B (some (g, u)) W0 v zs w) (a : Nat) (hm : ∀ j (hj : j < mid.length), (dI u)[a + j]? = some mid[j]) :
    ∀ j x, (mid.map (Value.int .u8))[j]? = some x → w.cell? ((⟨g, a, none⟩ : Addr).add j) = some x := by
  intro j x hx
  have hj : j < mid.length := by simpa using (List.getElem?_eq_some_iff.1 hx).1
  have e := hm j hj
  obtain ⟨hlt, e⟩ := List.getElem?_eq_some_iff.1 e
  have := (h.dig g u rfl).int (a + j) hlt
  rw [e] at this
  rw [Addr.add_lit, this]
  simp [hj] at hx
  rw [hx]
theorem Buf.at0 {B g u : Nat} {W0 w : World} {v : Value} {zs : List Int} {d0 : Int} (h : Buf B (some (g, u)) W0 v zs w) (h0 : (dI u)[0]? = some d0) : w.cell? ⟨g, 0, none⟩ = some (.int .u8 d0) := by
  obtain ⟨hlt, e⟩ := List.getElem?_eq_some_iff.1 h0
  rw [(h.dig g u rfl).int 0 hlt, e]
/-- An exponent's digits: two at least. -/
def eDig (E : Nat) : List Int := if E < 10 then [48, (E : Int) + 48] else if E < 100 then [(E : Int) / 10 + 48, (E : Int) % 10 + 48] else [(E : Int) / 100 + 48, (E : Int) / 10 % 10 + 48, (E : Int) % 10 + 48]
def eTail (dp : Int) : List Int := if dp - 1 < 0 then 101 :: 45 :: eDig (1 - dp).toNat else 101 :: 43 :: eDig (dp - 1).toNat

set_option maxHeartbeats 4000000 in
set_option maxRecDepth 100000 in
theorem fmtE_one (neg : Bool) (B g u E : Nat) (dp d0 : Int) (W0 w : World) (v : Value) (hbuf : Buf B (some (g, u)) W0 v [] w) (h0 : (dI u)[0]? = some d0) (hdp : dp - 1 = (E : Int) ∨ dp - 1 < 0 ∧ 1 - dp = (E : Int)) (hE : E ≤ 400) :
    Calls Tryz.prog 60 #[v, .bool neg, .slice (some ⟨g, 0, none⟩) 32 32, .int .i64 dp, .int .i64 1, .int .i64 0, .int .u8 101, .bool true] w fun r w' => ∃ v', r = .returned v' ∧ Buf B (some (g, u)) W0 v' ((if neg then [45, d0] else [d0]) ++ eTail dp) w' := by
  obtain ⟨i0, hi, hz0, hz1, hz2⟩ := info_parts infoByte
  have ht : (dp - 1 = (E : Int) ∧ eTail dp = 101 :: 43 :: eDig E) ∨ (dp - 1 < 0 ∧ -(dp - 1) = (E : Int) ∧ eTail dp = 101 :: 45 :: eDig E) := by
    unfold eTail
    rcases hdp with h | ⟨h, k⟩
    · rw [if_neg (by omega), show (dp - 1).toNat = E from by omega]; exact Or.inl ⟨h, rfl⟩
    · rw [if_pos h, show (1 - dp).toNat = E from by omega]; exact Or.inr ⟨h, by omega, rfl⟩
  have hr : (E < 10 ∧ eDig E = [48, (E : Int) + 48]) ∨ (10 ≤ E ∧ E < 100 ∧ eDig E = [(E : Int) / 10 + 48, (E : Int) % 10 + 48]) ∨ (100 ≤ E ∧ eDig E = [(E : Int) / 100 + 48, (E : Int) / 10 % 10 + 48, (E : Int) % 10 + 48]) := by
    unfold eDig
    by_cases h1 : E < 10
    · exact Or.inl ⟨h1, if_pos h1⟩
    · rw [if_neg h1]
      by_cases h2 : E < 100
      · exact Or.inr (Or.inl ⟨by omega, h2, if_pos h2⟩)
      · exact Or.inr (Or.inr ⟨by omega, if_neg h2⟩)
  clear hdp
  have hd := hbuf.at0 h0
  have H0 : Hid _ := h0
  clear h0
  cases neg
  all_goals
    rcases ht with ⟨hp, ht⟩ | ⟨hp0, hp, ht⟩
    all_goals
      rcases hr with ⟨r1, r2⟩ | ⟨r0, r1, r2⟩ | ⟨r0, r2⟩
      all_goals
        rw [ht, r2]
        clear ht r2
        go_enter Tryz.func60, Tryz.ntmps60
        go_wp2_with (first
          | (at_builtin; refine wpList_append_own _ rfl _ _ 58 rfl B 5 i0 (.int .u8 0) 1 1 Tryz.underlying58 hi hz0 hz1 hz2 rfl (by decide) _ _ _ rfl (hbuf.own.alloc _) ⟨_, 0, none⟩ 1 1 [_] rfl rfl (cell_one_new _ _ _) (by intro u hu; simp at hu; subst hu; rfl) (by have := hbuf.len; unfold maxLen; omega) (by have := hbuf.len; omega) (by have := hbuf.size; simp; omega) ?_; intro v w hown hgrow hnil; have hbuf := hbuf.push _ hown hgrow hnil (by simp); have hd := hbuf.at0 H0.out; clear hown hgrow hnil)
          | (at_builtin; refine wpList_append_own _ rfl _ _ 58 rfl B 5 i0 (.int .u8 0) 1 1 Tryz.underlying58 hi hz0 hz1 hz2 rfl (by decide) _ _ _ rfl (hbuf.own.alloc _) ⟨_, 0, none⟩ 2 2 [_, _] rfl rfl (cell_two_new _ _ _ _) (by intro u hu; simp at hu; rcases hu with rfl | rfl <;> rfl) (by have := hbuf.len; unfold maxLen; omega) (by have := hbuf.len; omega) (by have := hbuf.size; simp; omega) ?_; intro v w hown hgrow hnil; have hbuf := hbuf.push2 _ hown hgrow hnil (by simp); clear hown hgrow hnil)
          | (at_builtin; refine wpList_append_own _ rfl _ _ 58 rfl B 5 i0 (.int .u8 0) 1 1 Tryz.underlying58 hi hz0 hz1 hz2 rfl (by decide) _ _ _ rfl (hbuf.own.alloc _) ⟨_, 0, none⟩ 3 3 [_, _, _] rfl rfl (cell_three_new _ _ _ _ _) (by intro u hu; simp at hu; rcases hu with rfl | rfl | rfl <;> rfl) (by have := hbuf.len; unfold maxLen; omega) (by have := hbuf.len; omega) (by have := hbuf.size; simp; omega) ?_; intro v w hown hgrow hnil; have hbuf := hbuf.push3 _ hown hgrow hnil (by simp); clear hown hgrow hnil)
          | fail)
        go_ret
        exact ⟨_, rfl, by simpa using hbuf⟩
end Go.Proofs.YtmejmohambhaaaaGreatDoor
