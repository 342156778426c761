/- Unhelp, the document's. Own work of the verifier. -/
import Derived.Test.YtmphajfhilpgeaaLA7
namespace Go.Proofs.Ytmphajfhilpgeaa
open Go.RowKit

/-- How far the loop has come. -/
def UnI (l : List UInt8) (i : Nat) (xs : List Nat) : Prop := unL l = (unL (l.drop i)).map (txs xs ++ ·) ∧ (∀ x ∈ xs, x < 256)
theorem UnI.step {l : List UInt8} {i j : Nat} {xs : List Nat} {x : Nat} {b : UInt8} (h : UnI l i xs) (hx : x < 256) (hb : UInt8.ofNat x = b) (hd : unL (l.drop i) = (unL (l.drop j)).map (b :: ·)) : UnI l j (xs ++ [x]) := by
  obtain ⟨h1, h2⟩ := h
  refine ⟨?_, fun y hy => ?_⟩
  · rw [h1, hd, Option.map_map]
    congr 1
    funext z
    show txs xs ++ b :: z = txs (xs ++ [x]) ++ z
    rw [txs_app, ← hb, List.append_assoc]
    rfl
  · rcases List.mem_append.1 hy with g | g
    · exact h2 y g
    · rw [List.mem_singleton.1 g]; exact hx
theorem UnI.none {l : List UInt8} {i : Nat} {xs : List Nat} (h : UnI l i xs) (hd : unL (l.drop i) = none) : unL l = none := by
  rw [h.1, hd]; rfl
theorem un_low (l : List UInt8) (i : Nat) (h : i < l.length) (h1 : l[i].toNat ≠ 10) (h2 : l[i].toNat ≠ 92) : unL (l.drop i) = (unL (l.drop (i + 1))).map (l[i] :: ·) := by
  rw [List.drop_eq_getElem_cons h, unL.eq_def]
  simp only
  rw [if_neg h1, if_neg h2]
theorem un_ten (l : List UInt8) (i : Nat) (h : i < l.length) (h1 : l[i].toNat = 10) : unL (l.drop i) = none := by
  rw [List.drop_eq_getElem_cons h, unL.eq_def]
  simp only
  rw [if_pos h1]
theorem un_end (l : List UInt8) (i : Nat) (h : i < l.length) (h1 : l[i].toNat = 92) (h2 : ¬ i + 1 < l.length) : unL (l.drop i) = none := by
  rw [List.drop_eq_getElem_cons h, unL.eq_def]
  simp only
  rw [if_neg (by omega), if_pos h1, List.drop_eq_nil_of_le (by omega)]
theorem un_two (l : List UInt8) (i : Nat) (h : i + 1 < l.length) (h1 : l[i].toNat = 92) : unL (l.drop i) = if l[i + 1].toNat = 92 then (unL (l.drop (i + 2))).map (92 :: ·) else if l[i + 1].toNat = 110 then (unL (l.drop (i + 2))).map (10 :: ·) else none := by
  rw [List.drop_eq_getElem_cons (by omega : i < l.length), unL.eq_def]
  simp only
  rw [if_neg (by omega), if_pos h1, List.drop_eq_getElem_cons h]
def TellsU (l : List UInt8) (e : Ending) : Prop := (∃ t, unL l = some t ∧ e = .returned (.tuple #[.string ⟨t.toArray⟩, .bool true])) ∨ (unL l = none ∧ e = .returned (.tuple #[.string ⟨#[]⟩, .bool false]))
set_option maxHeartbeats 4000000 in
set_option maxRecDepth 100000 in
theorem unhelp_any (l : List UInt8) (hl : l.length ≤ 140737488355328) (w : World) :
    Calls Try.prog 27 #[.string ⟨l.toArray⟩] w fun r w' => TellsU l r ∧ Below w.heap.size w w' := by
  obtain ⟨i0, hi0, hz0, hz1, hz2⟩ := info_parts infoByte
  have HS : Hid (UnI l 0 []) := ⟨by show unL l = (unL l).map (txs [] ++ ·); cases unL l <;> rfl, fun x hx => by cases hx⟩
  go_enter Try.func27, Try.ntmps27
  go_wp2_with fail
  go_loopw [4, 5] (fun v a W => ∃ (i : Nat) (xs : List Nat), i ≤ l.length ∧ a = .int .i64 (i : Int) ∧ xs.length ≤ i ∧ Hid (UnI l i xs) ∧ GB w.heap.size 5 bV w v xs W) (fun _ a _ => l.length - (intOf a).toNat)
  case atStart => exact ⟨0, [], by omega, rfl, by simp, HS, GB.new w⟩
  case round =>
    clear HS
    obtain ⟨i, xs, hi, rfl, hxl, HI, hG⟩ := hrel
    have hbl := hG.below
    by_cases hlt : i < l.length
    · have hlt' : (i : Int) < (l.length : Int) := by omega
      have hB : i < (ByteArray.mk l.toArray).size := by show i < l.toArray.size; simpa using hlt
      have hbe : ((ByteArray.mk l.toArray)[i]'hB).toNat = l[i].toNat := rfl
      have h256 : ((ByteArray.mk l.toArray)[i]'hB).toNat < 256 := UInt8.toNat_lt _
      by_cases g1 : l[i].toNat = 10
      · have t1 : ((((ByteArray.mk l.toArray)[i]'hB).toNat : Int) == 10) = true := by rw [beq_iff_eq, hbe]; omega
        have HN : Hid (unL l = none) := HI.out.none (un_ten l i hlt g1)
        clear HI g1 hbe hG
        as_aux_lemma =>
          go_wp2_with fail
          go_ret2
          exact ⟨Or.inr ⟨HN.out, rfl⟩, hbl⟩
      have t1 : ((((ByteArray.mk l.toArray)[i]'hB).toNat : Int) == 10) = false := by rw [beq_eq_false_iff_ne, hbe]; omega
      by_cases g2 : l[i].toNat = 92
      · have t2 : ((((ByteArray.mk l.toArray)[i]'hB).toNat : Int) == 92) = true := by rw [beq_iff_eq, hbe]; omega
        obtain ⟨j, hj⟩ : ∃ j, j = i + 1 := ⟨_, rfl⟩
        have hj' : (i : Int) + 1 = (j : Int) := by omega
        by_cases jlt : j < l.length
        · have jn : ((j : Int) == (l.length : Int)) = false := by rw [beq_eq_false_iff_ne]; omega
          have jlt' : (j : Int) < (l.length : Int) := by omega
          have hBj : j < (ByteArray.mk l.toArray).size := by show j < l.toArray.size; simpa using jlt
          have hbj : ((ByteArray.mk l.toArray)[j]'hBj).toNat = l[j].toNat := rfl
          have j256 : ((ByteArray.mk l.toArray)[j]'hBj).toNat < 256 := UInt8.toNat_lt _
          have hu := un_two l i (by omega) g2
          have hlj : l[i + 1]'(by omega) = l[j] := by congr 1; exact hj.symm
          rw [hlj, show i + 2 = j + 1 from by omega] at hu
          by_cases g3 : l[j].toNat = 92
          · have t3 : ((((ByteArray.mk l.toArray)[j]'hBj).toNat : Int) != 92) = false := by rw [bne_eq_false_iff_eq, hbj]; omega
            have t5 : ((((ByteArray.mk l.toArray)[j]'hBj).toNat : Int) == 110) = false := by rw [beq_eq_false_iff_ne, hbj]; omega
            rw [if_pos g3] at hu
            have HI' : Hid (UnI l (j + 1) (xs ++ [((ByteArray.mk l.toArray)[j]'hBj).toNat])) := HI.out.step j256 (by rw [hbj, g3]; rfl) hu
            clear HI g1 g2 g3 hbe hbj hu hlj hj
            as_aux_lemma =>
              go_wp2_with (first | (at_builtin; refine wpList_append_own _ rfl _ _ 58 rfl w.heap.size 5 i0 (.int .u8 0) 1 1 Try.underlying58 hi0 hz0 hz1 hz2 rfl (by decide) _ _ _ rfl (hG.own.alloc _) ⟨_, 0, none⟩ 1 1 [_] rfl rfl (cell_one_new _ _ _) (by intro u hu; simp at hu; subst hu; rfl) (by unfold maxLen; omega) (by omega) (by have := hG.size; simp; omega) ?_; intro v' w7 hown hgrow hnil; have hG7 := hG.push (x := ((ByteArray.mk l.toArray)[j]'hBj).toNat) _ rfl hown hgrow hnil; clear hown hgrow hnil))
              exact ⟨⟨j + 1, _, by omega, by go_num, by simp; omega, HI', hG7⟩, by simp [intOf]; omega⟩
          · have t3 : ((((ByteArray.mk l.toArray)[j]'hBj).toNat : Int) != 92) = true := by rw [bne_iff_ne, hbj]; omega
            rw [if_neg g3] at hu
            by_cases g4 : l[j].toNat = 110
            · have t4 : ((((ByteArray.mk l.toArray)[j]'hBj).toNat : Int) != 110) = false := by rw [bne_eq_false_iff_eq, hbj]; omega
              have t5 : ((((ByteArray.mk l.toArray)[j]'hBj).toNat : Int) == 110) = true := by rw [beq_iff_eq, hbj]; omega
              rw [if_pos g4] at hu
              have HI' : Hid (UnI l (j + 1) (xs ++ [10])) := HI.out.step (by decide) rfl hu
              clear HI g1 g2 g3 g4 hbe hbj hu hlj hj
              as_aux_lemma =>
                go_wp2_with (first | (at_builtin; refine wpList_append_own _ rfl _ _ 58 rfl w.heap.size 5 i0 (.int .u8 0) 1 1 Try.underlying58 hi0 hz0 hz1 hz2 rfl (by decide) _ _ _ rfl (hG.own.alloc _) ⟨_, 0, none⟩ 1 1 [_] rfl rfl (cell_one_new _ _ _) (by intro u hu; simp at hu; subst hu; rfl) (by unfold maxLen; omega) (by omega) (by have := hG.size; simp; omega) ?_; intro v' w7 hown hgrow hnil; have hG7 := hG.push (x := 10) _ rfl hown hgrow hnil; clear hown hgrow hnil))
                exact ⟨⟨j + 1, _, by omega, by go_num, by simp; omega, HI', hG7⟩, by simp [intOf]; omega⟩
            · have t4 : ((((ByteArray.mk l.toArray)[j]'hBj).toNat : Int) != 110) = true := by rw [bne_iff_ne, hbj]; omega
              rw [if_neg g4] at hu
              have HN : Hid (unL l = none) := HI.out.none hu
              clear HI g1 g2 g3 g4 hbe hbj hu hlj hj hG
              as_aux_lemma =>
                go_wp2_with fail
                go_ret2
                exact ⟨Or.inr ⟨HN.out, rfl⟩, hbl⟩
        · have jn : ((j : Int) == (l.length : Int)) = true := by rw [beq_iff_eq]; omega
          have HN : Hid (unL l = none) := HI.out.none (un_end l i hlt g2 (by omega))
          clear HI g1 g2 hbe hj hG
          as_aux_lemma =>
            go_wp2_with fail
            go_ret2
            exact ⟨Or.inr ⟨HN.out, rfl⟩, hbl⟩
      · have t2 : ((((ByteArray.mk l.toArray)[i]'hB).toNat : Int) == 92) = false := by rw [beq_eq_false_iff_ne, hbe]; omega
        have HI' : Hid (UnI l (i + 1) (xs ++ [((ByteArray.mk l.toArray)[i]'hB).toNat])) := HI.out.step h256 (by rw [hbe, byte_nat]) (un_low l i hlt g1 g2)
        clear HI g1 g2 hbe
        as_aux_lemma =>
          go_wp2_with (first | (at_builtin; refine wpList_append_own _ rfl _ _ 58 rfl w.heap.size 5 i0 (.int .u8 0) 1 1 Try.underlying58 hi0 hz0 hz1 hz2 rfl (by decide) _ _ _ rfl (hG.own.alloc _) ⟨_, 0, none⟩ 1 1 [_] rfl rfl (cell_one_new _ _ _) (by intro u hu; simp at hu; subst hu; rfl) (by unfold maxLen; omega) (by omega) (by have := hG.size; simp; omega) ?_; intro v' w7 hown hgrow hnil; have hG7 := hG.push (x := ((ByteArray.mk l.toArray)[i]'hB).toNat) _ rfl hown hgrow hnil; clear hown hgrow hnil))
          exact ⟨⟨i + 1, _, by omega, by go_num, by simp; omega, HI', hG7⟩, by simp [intOf]; omega⟩
    · have hlt' : ¬ (i : Int) < (l.length : Int) := by omega
      have hcv := hG.text HI.out.2
      have HE : Hid (unL l = some (txs xs)) := by
        have := HI.out.1
        rw [List.drop_eq_nil_of_le (by omega)] at this
        rw [show unL [] = some [] from by rw [unL.eq_def]] at this
        show unL l = some (txs xs)
        rw [this]
        show some (txs xs ++ []) = _
        rw [List.append_nil]
      clear HI
      as_aux_lemma =>
        go_wp2_with fail
        go_ret2
        exact ⟨Or.inl ⟨_, HE.out, rfl⟩, hbl⟩
end Go.Proofs.Ytmphajfhilpgeaa
