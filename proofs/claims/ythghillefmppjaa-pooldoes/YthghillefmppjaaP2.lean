/- THE DOCUMENT'S POOL. Own work of the verifier. -/
import Derived.Test.YthghillefmppjaaP1
namespace Go.Proofs.Ythghillefmppjaa
open Go.RowKit

theorem infoB : (Try.prog.info? 4).map (fun i => (i.zero, i.size, i.bytes)) = some (some (.bool false), 1, 1) := by kernel_rfl
def bl (T : List Bool) : List Value := T.map Value.bool
/-- A row of bools, the whole block. -/
def RB (W : World) (g : Nat) (T : List Bool) : Prop := W.heap[g]? = some (.cells (bl T).toArray 4 (0, 0))
theorem RB.cell {W : World} {g : Nat} {T : List Bool} (h : RB W g T) (i : Nat) (hi : i < T.length) : W.cell? ⟨g, i, none⟩ = some (.bool T[i]) := by
  unfold RB at h; simp [World.cell?, h, bl, hi]
theorem RB.fr {W : World} {g : Nat} {T : List Bool} (h : RB W g T) (i : Nat) : W.frozen? ⟨g, i, none⟩ = false := by unfold RB at h; simp [World.frozen?, h]
theorem RB.lt {W : World} {g : Nat} {T : List Bool} (h : RB W g T) : g < W.heap.size := (Array.getElem?_eq_some_iff.1 h).1
theorem RB.set {W : World} {g : Nat} {T : List Bool} (h : RB W g T) (i : Nat) (y : Bool) : RB (W.setCell ⟨g, i, none⟩ (.bool y)) g (T.set i y) := by
  unfold RB at *
  rw [heap_setCell_same W g i _ _ _ h]
  simp [bl, List.map_set]
theorem RB.chg {W W' : World} {g : Nat} {T : List Bool} {S : Nat → Prop} (h : RB W g T) (k : Chg S W W') (hS : ¬ S g) : RB W' g T := k.at_ h hS
theorem RB.bel {W W' : World} {g : Nat} {T : List Bool} (h : RB W g T) (k : Below W.heap.size W W') : RB W' g T := (k.block g h.lt).trans h
theorem RB.other {W : World} {g : Nat} {T : List Bool} (h : RB W g T) {a : Addr} (ha : g ≠ a.block) (u : Value) : RB (W.setCell a u) g T := by
  unfold RB at *; rw [heap_other W a g u ha]; exact h
/-- The document's pool in memory. -/
structure RP (W : World) (b g : Nat) (T : List Bool) : Prop where
  blk : W.heap[b]? = some (.cells #[.slice (some ⟨g, 0, none⟩) T.length T.length] 46 (0, 0))
  row : RB W g T
theorem RP.c0 {W : World} {b g : Nat} {T : List Bool} (h : RP W b g T) : W.cell? ⟨b, 0, none⟩ = some (.slice (some ⟨g, 0, none⟩) T.length T.length) := by have := h.blk; simp [World.cell?, this]
theorem RP.ltb {W : World} {b g : Nat} {T : List Bool} (h : RP W b g T) : b < W.heap.size := (Array.getElem?_eq_some_iff.1 h.blk).1
theorem RP.ne {W : World} {b g : Nat} {T : List Bool} (h : RP W b g T) : b ≠ g := fun e => by
  have h1 := h.blk
  have h2 := h.row
  unfold RB at h2
  rw [e, h2] at h1
  injection h1 with h1
  injection h1 with _ h1
  exact absurd h1 (by decide)
theorem RP.set {W : World} {b g : Nat} {T : List Bool} (h : RP W b g T) (i : Nat) (y : Bool) : RP (W.setCell ⟨g, i, none⟩ (.bool y)) b g (T.set i y) := by
  refine ⟨?_, h.row.set i y⟩
  rw [heap_other W ⟨g, i, none⟩ b _ h.ne, List.length_set]
  exact h.blk
theorem RP.chg {W W' : World} {b g : Nat} {T : List Bool} {S : Nat → Prop} (h : RP W b g T) (k : Chg S W W') (hb : ¬ S b) (hg : ¬ S g) : RP W' b g T := ⟨k.at_ h.blk hb, h.row.chg k hg⟩
theorem RP.bel {W W' : World} {b g : Nat} {T : List Bool} (h : RP W b g T) (k : Below W.heap.size W W') : RP W' b g T := ⟨(k.block b h.ltb).trans h.blk, h.row.bel k⟩
theorem rnew_arg (n : Int) (hn : ¬ (1 ≤ n ∧ n ≤ 16)) (w : World) : Calls Try.prog 7 #[.int .i64 n] w fun e w' => e = .returned (.tuple #[.pointer none, .int .i64 1]) ∧ w' = w := by
  by_cases c : n < 1
  · clear hn
    go_enter Try.func7, Try.ntmps7
    go_wp2_with fail
    go_ret2
    exact ⟨rfl, rfl⟩
  · have c2 : 16 < n := by omega
    clear hn
    go_enter Try.func7, Try.ntmps7
    go_wp2_with fail
    go_ret2
    exact ⟨rfl, rfl⟩
theorem made_false (n : Nat) : madeCells #[.bool false] n = (bl (List.replicate n false)).toArray := by
  unfold madeCells bl
  apply Array.ext'
  simp
  apply List.ext_getElem
  · simp
  · intro i h1 h2
    simp [Nat.mod_one]
theorem bl_rep (n : Nat) : (bl (List.replicate n false)).toArray = Array.replicate n (Value.bool false) := by simp [bl]
theorem make_bools (n : Nat) (hn : n ≤ 16) (w : World) : (Instr.makeSlice 36 (.int .i64 (n : Int)) (.int .i64 (n : Int))).run Try.prog w = .ok (.slice (some ⟨w.heap.size, 0, none⟩) n n) (w.alloc (.cells (Array.replicate n (Value.bool false)) 4)) := by
  obtain ⟨i, hi, hz, hs, hb⟩ := info_parts infoB
  have hr := run_make (P := Try.prog) w 36 4 i (.bool false) Try.underlying36 hi hz .i64 .i64 (n : Int) (n : Int) (by omega) (Int.le_refl _) (by rw [hb]; omega) (by omega)
  rw [hr, hs, Nat.mul_one, Int.toNat_natCast, ← bl_rep, ← made_false]
  rfl
theorem rnew_ok (n : Nat) (h1 : 1 ≤ n) (h2 : n ≤ 16) (w : World) : Calls Try.prog 7 #[.int .i64 (n : Int)] w fun e w' => e = .returned (.tuple #[.pointer (some ⟨w.heap.size + 1, 0, none⟩), .int .i64 0]) ∧ RP w' (w.heap.size + 1) w.heap.size (List.replicate n false) ∧ Below w.heap.size w w' := by
  have d1 : ¬ (n : Int) < 1 := by omega
  have d2 : ¬ 16 < (n : Int) := by omega
  have hM := make_bools n h2 w
  go_enter Try.func7, Try.ntmps7
  go_wp2_with fail
  go_ret2
  refine ⟨rfl, ⟨?_, ?_⟩, bt (bel1 _ _) (bel1 _ _)⟩
  · rw [List.length_replicate]
    have := new_1 (w.alloc (.cells (Array.replicate n (Value.bool false)) 4)) (.cells #[.slice (some ⟨w.heap.size, 0, none⟩) n n] 46)
    simpa using this
  · refine RB.bel (W := w.alloc (.cells (Array.replicate n (Value.bool false)) 4)) ?_ (bel1 _ _)
    unfold RB
    rw [bl_rep]
    exact new_1 _ _
set_option maxHeartbeats 1000000 in
theorem rtake_any (b g : Nat) (T : List Bool) (w : World) (h : RP w b g T) (hT : T.length ≤ 16) :
    Calls Try.prog 12 #[.pointer (some ⟨b, 0, none⟩)] w fun e w' => e = tk T ∧ RP w' b g (T.set (fst T) true) ∧ Chg (fun y => y = g) w w' := by
  have c0 := h.c0
  have H := hid_of h
  clear h
  go_enter Try.func12, Try.ntmps12
  go_upto_region 2 with fail
  go_loopw [4] (fun x W => ∃ i : Nat, i ≤ T.length ∧ x = .int .i64 (i : Int) ∧ W = w ∧ Hid (∀ j, j < i → T[j]? = some true)) (fun x _ => T.length - (intOf x).toNat)
  case atStart => exact ⟨0, by omega, rfl, rfl, fun j hj => by omega⟩
  case round =>
    obtain ⟨i, hi, rfl, rfl, HJ⟩ := hrel
    by_cases hlt : i < T.length
    · have hlt' : (i : Int) < (T.length : Int) := by omega
      have ci := H.out.row.cell i hlt
      have fi := H.out.row.fr i
      by_cases hf : T[i] = false
      · have he := hid_of (fst_eq hlt hf HJ.out)
        rw [hf] at ci
        clear hf HJ
        go_wp2_with fail
        go_ret2
        rw [he.out]
        exact ⟨tk_yes he.out hlt, H.out.set i true, chg_set _ g i _⟩
      · have hf1 : T[i] = true := by simpa using hf
        have HJn : Hid (∀ j, j < i + 1 → T[j]? = some true) := fun j hj => by
          rcases Nat.lt_succ_iff_lt_or_eq.1 hj with k | k
          · exact HJ.out j k
          · subst k; rw [List.getElem?_eq_getElem hlt, hf1]
        rw [hf1] at ci
        clear hf hf1 HJ
        go_wp2_with fail
        exact ⟨⟨i + 1, by omega, by go_num, by simp, HJn⟩, by simp [intOf]; omega⟩
    · have hlt' : ¬ (i : Int) < (T.length : Int) := by omega
      have hie : i = T.length := by omega
      subst hie
      have he := hid_of (fst_none HJ.out)
      clear HJ
      go_wp2_with fail
      go_ret2
      rw [he.out, List.set_eq_of_length_le (Nat.le_refl _)]
      exact ⟨tk_no he.out, H.out, Chg.refl _ _⟩
theorem rgive_arg (b g : Nat) (T : List Bool) (n : Int) (w : World) (h : RP w b g T) (hn : ¬ (0 ≤ n ∧ n < (T.length : Int))) :
    Calls Try.prog 13 #[.pointer (some ⟨b, 0, none⟩), .int .i64 n] w fun e w' => e = .returned (.int .i64 1) ∧ w' = w := by
  have c0 := h.c0
  by_cases c : n < 0
  · clear h hn
    go_enter Try.func13, Try.ntmps13
    go_wp2_with fail
    go_ret
    exact ⟨rfl, rfl⟩
  · have c2 : (T.length : Int) ≤ n := by omega
    clear h hn
    go_enter Try.func13, Try.ntmps13
    go_wp2_with fail
    go_ret
    exact ⟨rfl, rfl⟩
theorem rgive_state (b g i : Nat) (T : List Bool) (w : World) (h : RP w b g T) (hi : i < T.length) (hf : T[i] = false) :
    Calls Try.prog 13 #[.pointer (some ⟨b, 0, none⟩), .int .i64 (i : Int)] w fun e w' => e = .returned (.int .i64 8) ∧ w' = w := by
  have c0 := h.c0
  have ci := h.row.cell i hi
  rw [hf] at ci
  have c1 : ¬ (i : Int) < 0 := by omega
  have c2 : ¬ (T.length : Int) ≤ (i : Int) := by omega
  clear h hf
  go_enter Try.func13, Try.ntmps13
  go_wp2_with fail
  go_ret
  exact ⟨rfl, rfl⟩
theorem rgive_ok (b g i : Nat) (T : List Bool) (w : World) (h : RP w b g T) (hi : i < T.length) (hf : T[i] = true) :
    Calls Try.prog 13 #[.pointer (some ⟨b, 0, none⟩), .int .i64 (i : Int)] w fun e w' => e = .returned (.int .i64 0) ∧ RP w' b g (T.set i false) ∧ Chg (fun y => y = g) w w' := by
  have c0 := h.c0
  have ci := h.row.cell i hi
  have fi := h.row.fr i
  rw [hf] at ci
  have H := hid_of h
  have c1 : ¬ (i : Int) < 0 := by omega
  have c2 : ¬ (T.length : Int) ≤ (i : Int) := by omega
  clear h hf
  go_enter Try.func13, Try.ntmps13
  go_wp2_with fail
  go_ret
  exact ⟨rfl, H.out.set i false, chg_set _ g i _⟩
end Go.Proofs.Ythghillefmppjaa
