/- FREE, the code's and the document's. Own work of the verifier. -/
import Derived.Test.YthghillefmppjaaP2
namespace Go.Proofs.Ythghillefmppjaa
open Go.RowKit

theorem infoI : (Try.prog.info? 3).map (fun i => (i.zero, i.size, i.bytes)) = some (some (.int .i64 0), 1, 8) := by kernel_rfl
def fli (L : List Int) : List Value := L.map (Value.int .i64)
theorem fli_len (L : List Int) : (fli L).length = L.length * 1 := by unfold fli; rw [List.length_map, Nat.mul_one]
theorem fli_append (A B : List Int) : fli (A ++ B) = fli A ++ fli B := List.map_append ..
theorem cell_one_new (w : World) (x : Value) (t : TypeId) : ∀ j u, [x][j]? = some u → (w.alloc (.cells #[x] t)).cell? ((⟨w.heap.size, 0, none⟩ : Addr).add j) = some u := fun j u hu => by
  match j, hu with
  | 0, hu => simp at hu; subst hu; simp [go_sem]
  | j + 1, hu => simp at hu
theorem one_int (a : Int) : ∀ u ∈ [Value.int .i64 a], u.oneCell' = true := by
  intro u hu
  simp at hu
  rw [hu]; rfl
theorem own_slice {W : World} {B : Nat} {e : TypeId} {s n : Nat} {v : Value} {xs : List Value} (h : W.ownsRow B e s v n xs) : ∃ ao g cap, v = .slice ao n cap ∧ (0 < n → ao = some ⟨g, 0, none⟩) := by
  rcases h.2 with ⟨q, q2⟩ | ⟨g, cap, cur, q, _⟩
  · exact ⟨none, 0, 0, by rw [q, q2], fun k => by omega⟩
  · exact ⟨_, g, cap, q, fun _ => rfl⟩
/-- Whole numbers in a row of the call's own. -/
def OwnI (B : Nat) (v : Value) (L : List Int) (W : World) : Prop := W.ownsRow B 3 1 v L.length (fli L)
theorem OwnI.bel {B : Nat} {v : Value} {L : List Int} {W W' : World} (h : OwnI B v L W) (hb : Below W.heap.size W W') : OwnI B v L W' := own_belG h hb
/-- While Free goes on. -/
structure FI (w : World) (v : Value) (L : List Int) (W : World) : Prop where
  own : OwnI w.heap.size v L W
  bel : Below w.heap.size w W
theorem FI.start (w : World) : FI w (.slice none 0 0) [] w := ⟨World.ownsRow_nil _ _ _ _, Below.refl _ _⟩
theorem FI.row {w W W2 : World} {v : Value} {L : List Int} (h : FI w v L W) (hb : Below W.heap.size W W2) : W2.ownsRow w.heap.size 3 1 v L.length (fli L) := h.own.bel hb
theorem FI.below {w W W' : World} {v : Value} {L : List Int} (h : FI w v L W) (hb : Below W.heap.size W W') : FI w v L W' := ⟨h.own.bel hb, bt h.bel hb⟩
theorem FI.push {w W W2 W3 : World} {v v' : Value} {L : List Int} {x : Int} (h : FI w v L W) (ha : Below W.heap.size W W2)
    (hp : (∃ g cap, v = .slice (some ⟨g, 0, none⟩) L.length cap ∧ v' = .slice (some ⟨g, 0, none⟩) (L.length + 1) cap ∧ W3.ownsRow w.heap.size 3 1 v' (L.length + 1) (fli L ++ [.int .i64 x]) ∧ W2.grownBy W3 (some g)) ∨ (W3.ownsRow W2.heap.size 3 1 v' (L.length + 1) (fli L ++ [.int .i64 x]) ∧ Below W2.heap.size W2 W3)) :
    FI w v' (L ++ [x]) W3 := by
  have hb2 : Below w.heap.size w W2 := bt h.bel ha
  have e : fli L ++ [.int .i64 x] = fli (L ++ [x]) := by rw [fli_append]; rfl
  have el : (L ++ [x]).length = L.length + 1 := by simp
  rw [e] at hp
  rcases hp with ⟨g, cap, rfl, rfl, hr, hg⟩ | ⟨hr, hB⟩
  · refine ⟨by unfold OwnI; rw [el]; exact hr, ?_⟩
    have hgB : w.heap.size ≤ g := by
      rcases own_atG hr with q | ⟨g', q, q1, _⟩
      · cases q
      · cases q; exact q1
    exact hb2.trans ⟨hg.os, hg.tape, hg.output, hg.size, fun k hk => hg.block k (Nat.lt_of_lt_of_le hk hb2.size) (fun e => by cases e; omega)⟩
  · exact ⟨by unfold OwnI; rw [el]; exact own_leG hr hb2.size, bt hb2 hB⟩
set_option maxHeartbeats 1000000 in
theorem free_any (b : Nat) (T : List Bool) (w : World) (h : CP w b T) (hT : T.length ≤ 16) :
    Calls Try.prog 17 #[.pointer (some ⟨b, 0, none⟩)] w fun e w' => ∃ v, e = .returned v ∧ FI w v (fr 0 T) w' := by
  obtain ⟨i0, hi0, hz0, hz1, hz2⟩ := info_parts infoI
  have c0 := h.c0
  have H := hid_of h
  clear h
  go_enter Try.func17, Try.ntmps17
  go_upto_region 3 with fail
  clear c0
  go_loopw [3, 9] (fun v x W => ∃ i : Nat, i ≤ T.length ∧ x = .int .i64 (i : Int) ∧ Hid (FI w v (fr 0 (T.take i)) W)) (fun _ x _ => T.length - (intOf x).toNat)
  case atStart => exact ⟨0, by omega, rfl, FI.start w⟩
  case round =>
    obtain ⟨i, hi, rfl, HF⟩ := hrel
    by_cases hlt : i < T.length
    · have hlt' : (i : Int) < (T.length : Int) := by omega
      have hs := fr_take hlt
      have hl : Hid ((fr 0 (T.take i)).length ≤ 16) := by
        have := fr_len (T.take i) 0
        rw [List.length_take] at this
        unfold Hid; omega
      by_cases hf : T[i] = false
      · have hf' : T[i]? = some false := by rw [List.getElem?_eq_getElem hlt, hf]
        have HI : Hid (∀ W, CP W b T → _) := fun W hW => isFree_yes b i T W hW hT hlt hf'
        rw [hf] at hs
        have HS : Hid (fr 0 (T.take (i + 1)) = fr 0 (T.take i) ++ [(i : Int)]) := hs
        clear hf hf' hs
        obtain ⟨L, hL⟩ : ∃ L, fr 0 (T.take i) = L := ⟨_, rfl⟩
        rw [hL] at HF hl HS
        clear hL
        go_wp2_with (first
          | (go_at_call 15; with_reducible refine (HI.out _ (H.out.chg (Chg.of_below (S := fun _ => False) HF.out.bel) id)).mono ?_; rintro e w1 ⟨rfl, m, rfl⟩)
          | (at_builtin; refine wpList_append_two _ rfl _ _ 35 rfl w.heap.size 3 i0 (.int .i64 0) 1 8 Try.underlying35 hi0 hz0 hz1 hz2 rfl u3 L.length (fli L) rfl (HF.out.row (bt (bel_drewN (Below.refl _ _) m) (bel1 _ _))) ⟨_, 0, none⟩ 1 1 [_] rfl rfl (cell_one_new _ _ _) (one_int _) (by omega) (by have := hl.out; unfold maxLen; omega) (by have := hl.out; omega) ?_; intro l' w4 hp4))
        exact ⟨⟨i + 1, by omega, by go_num, by unfold Hid; rw [HS.out]; exact HF.out.push (bt (bel_drewN (Below.refl _ _) m) (bel1 _ _)) hp4⟩, by simp [intOf]; omega⟩
      · have hf1 : T[i] = true := by simpa using hf
        have hf' : T[i]? = some true := by rw [List.getElem?_eq_getElem hlt, hf1]
        have HI : Hid (∀ W, CP W b T → _) := fun W hW => isFree_no b i T W hW hT hlt hf'
        rw [hf1, if_pos rfl, List.append_nil] at hs
        rw [← hs] at HF
        clear hf hf1 hf' hs
        go_wp2_with (go_at_call 15; with_reducible refine (HI.out _ (H.out.chg (Chg.of_below (S := fun _ => False) HF.out.bel) id)).mono ?_; rintro e w1 ⟨rfl, m, rfl⟩)
        exact ⟨⟨i + 1, by omega, by go_num, HF.out.below (bel_drewN (Below.refl _ _) m)⟩, by simp [intOf]; omega⟩
    · have hlt' : ¬ (i : Int) < (T.length : Int) := by omega
      have hie : i = T.length := by omega
      subst hie
      rw [List.take_of_length_le (Nat.le_refl _)] at HF
      go_wp2_with fail
      go_ret
      exact ⟨_, rfl, HF.out⟩
theorem FI.empty (w : World) : FI w (.slice (some ⟨w.heap.size, 0, none⟩) 0 0) [] (w.alloc (.cells #[] 3)) := by
  refine ⟨⟨rfl, Or.inr ⟨w.heap.size, 0, #[], rfl, Nat.le_refl _, new_1 _ _, Nat.le_refl _, by unfold maxLen; omega, rfl, rfl⟩⟩, bel1 _ _⟩
set_option maxHeartbeats 1000000 in
theorem rfree_any (b g : Nat) (T : List Bool) (w : World) (h : RP w b g T) (hT : T.length ≤ 16) :
    Calls Try.prog 16 #[.pointer (some ⟨b, 0, none⟩)] w fun e w' => ∃ v, e = .returned v ∧ FI w v (fr 0 T) w' := by
  obtain ⟨i0, hi0, hz0, hz1, hz2⟩ := info_parts infoI
  have H := hid_of h
  have H0 := hid_of (FI.empty w)
  clear h
  go_enter Try.func16, Try.ntmps16
  go_upto_region 3 with fail
  go_loopw [3, 4] (fun v x W => ∃ i : Nat, i ≤ T.length ∧ x = .int .i64 (i : Int) ∧ Hid (FI w v (fr 0 (T.take i)) W)) (fun _ x _ => T.length - (intOf x).toNat)
  case atStart => exact ⟨0, by omega, rfl, H0⟩
  case round =>
    obtain ⟨i, hi, rfl, HF⟩ := hrel
    have hr := H.out.bel HF.out.bel
    have c0 := hr.c0
    by_cases hlt : i < T.length
    · have hlt' : (i : Int) < (T.length : Int) := by omega
      have hs := fr_take hlt
      have ci := hr.row.cell i hlt
      clear hr
      have hl : Hid ((fr 0 (T.take i)).length ≤ 16) := by
        have := fr_len (T.take i) 0
        rw [List.length_take] at this
        unfold Hid; omega
      by_cases hf : T[i] = false
      · rw [hf] at hs ci
        have HS : Hid (fr 0 (T.take (i + 1)) = fr 0 (T.take i) ++ [(i : Int)]) := hs
        clear hf hs
        obtain ⟨L, hL⟩ : ∃ L, fr 0 (T.take i) = L := ⟨_, rfl⟩
        rw [hL] at HF hl HS
        clear hL
        go_wp2_with (first
          | (at_builtin; refine wpList_append_two _ rfl _ _ 35 rfl w.heap.size 3 i0 (.int .i64 0) 1 8 Try.underlying35 hi0 hz0 hz1 hz2 rfl u3 L.length (fli L) rfl (HF.out.row (bel1 _ _)) ⟨_, 0, none⟩ 1 1 [_] rfl rfl (cell_one_new _ _ _) (one_int _) (by omega) (by have := hl.out; unfold maxLen; omega) (by have := hl.out; omega) ?_; intro l' w4 hp4))
        exact ⟨⟨i + 1, by omega, by go_num, by unfold Hid; rw [HS.out]; exact HF.out.push (bel1 _ _) hp4⟩, by simp [intOf]; omega⟩
      · have hf1 : T[i] = true := by simpa using hf
        rw [hf1] at ci
        rw [hf1, if_pos rfl, List.append_nil] at hs
        rw [← hs] at HF
        clear hf hf1 hs
        go_wp2_with fail
        exact ⟨⟨i + 1, by omega, by go_num, HF⟩, by simp [intOf]; omega⟩
    · have hlt' : ¬ (i : Int) < (T.length : Int) := by omega
      have hie : i = T.length := by omega
      subst hie
      rw [List.take_of_length_le (Nat.le_refl _)] at HF
      clear hr
      go_wp2_with fail
      go_ret
      exact ⟨_, rfl, HF.out⟩
theorem OwnI.cell {W : World} {B g cap : Nat} {L : List Int} (h : OwnI B (.slice (some ⟨g, 0, none⟩) L.length cap) L W) (i : Nat) (hi : i < L.length) : W.cell? ⟨g, i, none⟩ = some (.int .i64 L[i]) := by
  have h' : W.ownsRow B 3 1 (.slice (some ⟨g, 0, none⟩) L.length cap) L.length (fli L) := h
  rw [h'.cellAt i (by omega)]
  unfold fli
  rw [List.getElem?_map, List.getElem?_eq_getElem hi]
  rfl
/-- Two lists that are the same. -/
theorem same_any (B B' : Nat) (v v' : Value) (L : List Int) (w : World) (h : OwnI B v L w) (h' : OwnI B' v' L w) (hL : L.length ≤ 1000) :
    Calls Try.prog 18 #[v, v'] w fun e w' => e = .returned (.bool true) ∧ ∃ n, w' = w.drewN n := by
  obtain ⟨ao, g, cap, rfl, hao⟩ := own_slice h
  obtain ⟨ao', g', cap', rfl, hao'⟩ := own_slice h'
  have H := hid_of h
  have H' := hid_of h'
  clear h h'
  go_enter Try.func18, Try.ntmps18
  go_upto_region 4 with fail
  go_loopw [5] (fun x W => ∃ i n : Nat, i ≤ L.length ∧ x = .int .i64 (i : Int) ∧ W = w.drewN n) (fun x _ => L.length - (intOf x).toNat)
  case atStart => exact ⟨0, 0, by omega, rfl, rfl⟩
  case round =>
    obtain ⟨i, n, hi, rfl, rfl⟩ := hrel
    by_cases hlt : i < L.length
    · have hlt' : (i : Int) < (L.length : Int) := by omega
      obtain rfl := hao (by omega)
      obtain rfl := hao' (by omega)
      have ci := OwnI.cell H.out i hlt
      have ci' := OwnI.cell H'.out i hlt
      go_upto_region 6 with fail
      go_quiet (fail)
      go_wp2_with fail
      exact ⟨⟨i + 1, n + nq, by omega, by go_num, by simp⟩, by simp [intOf]; omega⟩
    · have hlt' : ¬ (i : Int) < (L.length : Int) := by omega
      go_wp2_with fail
      go_ret
      exact ⟨rfl, n, rfl⟩
end Go.Proofs.Ythghillefmppjaa
