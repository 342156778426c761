/- value, the document's. Own work of the verifier. -/
import Derived.Test.YtmphajfhilpgeabLA13
import Derived.Laws.ResultCell
namespace Go.Proofs.Ytmphajfhilpgeab
open Go.RowKit

/-- A value from behind its quote on: what is wrong and where, or it and the place behind the closing quote. -/
def valR : List UInt8 → Nat → Except (Int × Nat) (List UInt8 × Nat)
  | [], p => .error (5, p)
  | b :: r, p => if b.toNat = 34 then .ok ([], p + 1) else if b.toNat = 10 then .error (5, p) else if b.toNat = 92 then
      match r with
      | [] => .error (5, p)
      | c :: r' => if c.toNat = 92 ∨ c.toNat = 34 then (valR r' (p + 2)).map fun q => (c :: q.1, q.2) else if c.toNat = 110 then (valR r' (p + 2)).map fun q => (10 :: q.1, q.2) else .error (5, p)
    else (valR r (p + 1)).map fun q => (b :: q.1, q.2)
/-- How far the loop has come. -/
def ValI (l : List UInt8) (p i : Nat) (xs : List Nat) : Prop := valR (l.drop p) p = (valR (l.drop i) i).map (fun q => (txs xs ++ q.1, q.2)) ∧ (∀ x ∈ xs, x < 256)
theorem ValI.step {l : List UInt8} {p i j : Nat} {xs : List Nat} {x : Nat} {b : UInt8} (h : ValI l p i xs) (hx : x < 256) (hb : UInt8.ofNat x = b) (hd : valR (l.drop i) i = (valR (l.drop j) j).map fun q => (b :: q.1, q.2)) : ValI l p j (xs ++ [x]) := by
  obtain ⟨h1, h2⟩ := h
  refine ⟨?_, fun y hy => ?_⟩
  · rw [h1, hd]
    cases valR (l.drop j) j with
    | error e => rfl
    | ok q =>
      show Except.ok (txs xs ++ b :: q.1, q.2) = Except.ok (txs (xs ++ [x]) ++ q.1, q.2)
      rw [txs_app, ← hb, List.append_assoc]
      rfl
  · rcases List.mem_append.1 hy with g | g
    · exact h2 y g
    · rw [List.mem_singleton.1 g]; exact hx
theorem ValI.err {l : List UInt8} {p i : Nat} {xs : List Nat} {e : Int × Nat} (h : ValI l p i xs) (hd : valR (l.drop i) i = .error e) : valR (l.drop p) p = .error e := by
  rw [h.1, hd]; rfl
theorem val_end (l : List UInt8) (i : Nat) (h : ¬ i < l.length) : valR (l.drop i) i = .error (5, i) := by
  rw [List.drop_eq_nil_of_le (by omega), valR]
theorem val_low (l : List UInt8) (i : Nat) (h : i < l.length) (h0 : l[i].toNat ≠ 34) (h1 : l[i].toNat ≠ 10) (h2 : l[i].toNat ≠ 92) : valR (l.drop i) i = (valR (l.drop (i + 1)) (i + 1)).map fun q => (l[i] :: q.1, q.2) := by
  rw [List.drop_eq_getElem_cons h, valR.eq_def]
  simp only
  rw [if_neg h0, if_neg h1, if_neg h2]
theorem val_quote (l : List UInt8) (i : Nat) (h : i < l.length) (h0 : l[i].toNat = 34) : valR (l.drop i) i = .ok ([], i + 1) := by
  rw [List.drop_eq_getElem_cons h, valR.eq_def]
  simp only
  rw [if_pos h0]
theorem val_ten (l : List UInt8) (i : Nat) (h : i < l.length) (h1 : l[i].toNat = 10) : valR (l.drop i) i = .error (5, i) := by
  rw [List.drop_eq_getElem_cons h, valR.eq_def]
  simp only
  rw [if_neg (by omega), if_pos h1]
theorem val_last (l : List UInt8) (i : Nat) (h : i < l.length) (h1 : l[i].toNat = 92) (h2 : ¬ i + 1 < l.length) : valR (l.drop i) i = .error (5, i) := by
  rw [List.drop_eq_getElem_cons h, valR.eq_def]
  simp only
  rw [if_neg (by omega), if_neg (by omega), if_pos h1, List.drop_eq_nil_of_le (by omega)]
theorem val_two (l : List UInt8) (i : Nat) (h : i + 1 < l.length) (h1 : l[i].toNat = 92) : valR (l.drop i) i = if l[i + 1].toNat = 92 ∨ l[i + 1].toNat = 34 then (valR (l.drop (i + 2)) (i + 2)).map fun q => (l[i + 1] :: q.1, q.2) else if l[i + 1].toNat = 110 then (valR (l.drop (i + 2)) (i + 2)).map fun q => (10 :: q.1, q.2) else .error (5, i) := by
  rw [List.drop_eq_getElem_cons (by omega : i < l.length), valR.eq_def]
  simp only
  rw [if_neg (by omega), if_neg (by omega), if_pos h1, List.drop_eq_getElem_cons h]
/-- What value answers. -/
def TellsV (l : List UInt8) (p : Nat) (e : Ending) : Prop :=
  (∃ (z : Int) (k : Nat), valR (l.drop p) p = .error (z, k) ∧ e = .returned (.tuple #[.string ⟨#[]⟩, .int .i64 0, .agg #[.int .i64 z, .int .i64 (k : Int)]])) ∨
  (∃ (t : List UInt8) (k : Nat), valR (l.drop p) p = .ok (t, k) ∧ (txE t ≠ 0 ∧ e = .returned (.tuple #[.string ⟨#[]⟩, .int .i64 0, .agg #[.int .i64 (txE t), .int .i64 (p : Int)]]) ∨ txE t = 0 ∧ e = .returned (.tuple #[.string ⟨t.toArray⟩, .int .i64 (k : Int), .agg #[.int .i64 0, .int .i64 0]])))
theorem results_ttc {fn : Func} {t u p : Tmp} {ty : TypeId} (h : fn.results = #[.tmp t, .tmp u, .cell p ty]) (tmps : Array Value) (P : Program) (w : World) :
    (results fn tmps).run P w =
      ((asAddr (tmps.getD p undef)).run P w).andThen fun a w₁ => ((loadVar ty a).run P w₁).andThen fun v w₂ => .ok (.tuple #[tmps.getD t undef, tmps.getD u undef, v]) w₂ := by
  simp only [results, h]
  simp [Sem.run_bind, Result.andThen]
theorem load_wrong (g : Nat) (x y : Int) (w : World) (c0 : w.cell? ⟨g, 0, none⟩ = some (.int .i64 x)) (c1 : w.cell? ⟨g, 1, none⟩ = some (.int .i64 y)) : (loadVar 44 ⟨g, 0, none⟩).run Try.prog w = .ok (.agg #[.int .i64 x, .int .i64 y]) w := by
  simp [loadVar, go_sem, c0, c1]
theorem ret_wrong (tmps : Array Value) (g : Nat) (x y : Int) (w : World) (hp : tmps.getD 6 undef = .pointer (some ⟨g, 0, none⟩)) (c0 : w.cell? ⟨g, 0, none⟩ = some (.int .i64 x)) (c1 : w.cell? ⟨g, 1, none⟩ = some (.int .i64 y)) :
    (results Try.f61 tmps).run Try.prog w = .ok (.tuple #[tmps.getD 4 undef, tmps.getD 5 undef, .agg #[.int .i64 x, .int .i64 y]]) w := by
  rw [results_ttc (t := 4) (u := 5) (p := 6) (ty := 44) rfl, hp]
  simp [asAddr, load_wrong g x y w c0 c1, Result.andThen]
theorem two_set {w : World} {g : Nat} {u v x y : Value} (z0 : w.cell? ⟨g, 0, none⟩ = some u) (z1 : w.cell? ⟨g, 1, none⟩ = some v) :
    ((w.setCell ⟨g, 0, none⟩ x).setCell ⟨g, 1, none⟩ y).cell? ⟨g, 0, none⟩ = some x ∧ ((w.setCell ⟨g, 0, none⟩ x).setCell ⟨g, 1, none⟩ y).cell? ⟨g, 1, none⟩ = some y := by
  constructor
  · rw [World.cell?_setCell_other _ ⟨g, 1, none⟩ ⟨g, 0, none⟩ _ (by intro h; cases h), World.cell?_setCell_same w _ _ z0]
  · have k : (w.setCell ⟨g, 0, none⟩ x).cell? ⟨g, 1, none⟩ = some v := by
      rw [World.cell?_setCell_other _ ⟨g, 0, none⟩ ⟨g, 1, none⟩ _ (by intro h; cases h)]
      exact z1
    exact World.cell?_setCell_same _ _ _ k
theorem GB.below' {B : Nat} {e : TypeId} {f : Nat → Value} {W0 w : World} {v : Value} {xs : List Nat} (h : GB B e f W0 v xs w) : Below B W0 w := h.below
set_option maxHeartbeats 4000000 in
set_option maxRecDepth 100000 in
theorem value_any (l : List UInt8) (p : Nat) (hp : p ≤ l.length) (hl : l.length ≤ 140737488355328) (w : World) :
    Calls Try.prog 61 #[.string ⟨l.toArray⟩, .int .i64 (p : Int)] w fun r w' => TellsV l p r ∧ Below w.heap.size w w' := by
  obtain ⟨i0, hi0, hz0, hz1, hz2⟩ := info_parts infoByte
  go_enter Try.func61, Try.ntmps61
  have hw1 : (w.alloc (.cells #[.int .i64 0, .int .i64 0] 44)).heap.size = w.heap.size + 1 := by simp
  have HG0 : Hid (GB (w.heap.size + 1) 5 bV (w.alloc (.cells #[.int .i64 0, .int .i64 0] 44)) (.slice (some ⟨w.heap.size + 1, 0, none⟩) 0 0) [] ((w.alloc (.cells #[.int .i64 0, .int .i64 0] 44)).alloc (.cells #[] 5))) := by
    have := GB.new (e := 5) (f := bV) (w.alloc (.cells #[.int .i64 0, .int .i64 0] 44))
    rw [hw1] at this
    exact this
  have HW1 : Hid (Below w.heap.size w (w.alloc (.cells #[.int .i64 0, .int .i64 0] 44)) ∧ (w.alloc (.cells #[.int .i64 0, .int .i64 0] 44)).cell? ⟨w.heap.size, 0, none⟩ = some (.int .i64 0) ∧ (w.alloc (.cells #[.int .i64 0, .int .i64 0] 44)).cell? ⟨w.heap.size, 1, none⟩ = some (.int .i64 0) ∧ ∀ k, (w.alloc (.cells #[.int .i64 0, .int .i64 0] 44)).frozen? ⟨w.heap.size, k, none⟩ = false) := ⟨bel1 w _, by simp [go_sem], by simp [go_sem], fun k => by simp [go_sem]⟩
  have HS : Hid (ValI l p p []) := ⟨by cases valR (l.drop p) p <;> rfl, fun x hx => by cases hx⟩
  have HTx : Hid (∀ t : List UInt8, t.length ≤ 4611686018427387904 → ∀ W, Calls Try.prog 34 #[.string ⟨t.toArray⟩] W fun r w' => r = .returned (.int .i64 (txE t)) ∧ w' = W) := fun t ht W => ltext_any t ht W
  clear hw1
  go_wp2_with fail
  generalize w.alloc (.cells #[.int .i64 0, .int .i64 0] 44) = w1 at *
  go_loopw [7, 8] (fun v a W => ∃ (i : Nat) (xs : List Nat), p ≤ i ∧ i ≤ l.length ∧ a = .int .i64 (i : Int) ∧ xs.length ≤ i ∧ Hid (ValI l p i xs) ∧ GB (w.heap.size + 1) 5 bV w1 v xs W) (fun _ a _ => l.length - (intOf a).toNat)
  case atStart => exact ⟨p, [], by omega, hp, rfl, by simp, HS, HG0.out⟩
  case round =>
    clear HS HG0
    obtain ⟨i, xs, pi, hi, rfl, hxl, HI, hG⟩ := hrel
    obtain ⟨n1, n2, n3, n4⟩ := HW1.out
    have hbl : Below w.heap.size w wr := n1.trans (hG.below.mono (by omega))
    have z0 : wr.cell? ⟨w.heap.size, 0, none⟩ = some (.int .i64 0) := by rw [hG.below.cell (p := ⟨w.heap.size, 0, none⟩) (by show w.heap.size < w.heap.size + 1; omega)]; exact n2
    have z1 : wr.cell? ⟨w.heap.size, 1, none⟩ = some (.int .i64 0) := by rw [hG.below.cell (p := ⟨w.heap.size, 1, none⟩) (by show w.heap.size < w.heap.size + 1; omega)]; exact n3
    have fz : ∀ k, wr.frozen? ⟨w.heap.size, k, none⟩ = false := fun k => by rw [hG.below.frozen (p := ⟨w.heap.size, k, none⟩) (by show w.heap.size < w.heap.size + 1; omega)]; exact n4 k
    have y0 := fz 0
    have y1 := fz 1
    clear n1 n2 n3 n4 HW1 fz
    by_cases hlt : i < l.length
    · have hlt' : (i : Int) < (l.length : Int) := by omega
      have hB : i < (ByteArray.mk l.toArray).size := by show i < l.toArray.size; simpa using hlt
      have hbe : ((ByteArray.mk l.toArray)[i]'hB).toNat = l[i].toNat := rfl
      have h256 : ((ByteArray.mk l.toArray)[i]'hB).toNat < 256 := UInt8.toNat_lt _
      by_cases g0 : l[i].toNat = 34
      · have t0 : ((((ByteArray.mk l.toArray)[i]'hB).toNat : Int) != 34) = false := by rw [bne_eq_false_iff_eq, hbe]; omega
        have ne : ((i : Int) == (l.length : Int)) = false := by rw [beq_eq_false_iff_ne]; omega
        have HV : Hid (valR (l.drop p) p = .ok (txs xs, i + 1)) := by
          show _ = _
          rw [HI.out.1, val_quote l i hlt g0]
          show Except.ok (txs xs ++ [], i + 1) = _
          rw [List.append_nil]
        have hcv := hG.text HI.out.2
        have hln : (txs xs).length = xs.length := by unfold txs; rw [List.length_map]
        have HT1 : Hid _ := HTx.out (txs xs) (by omega)
        clear HI hG g0 hbe h256 HTx hln
        generalize txs xs = t at *
        by_cases e1 : txE t = 0
        · rw [e1] at HT1
          have HE1 : Hid _ := e1
          clear e1
          as_aux_lemma =>
            go_wp2_with fail
            refine (HT1.out _).mono ?_
            rintro r w2 ⟨rfl, rfl⟩
            go_wp2_with fail
            (try simp only [Exit.inBlock, Exit.then]); refine bodyPost_ret (ret_wrong _ w.heap.size _ _ _ rfl (two_set z0 z1).1 (two_set z0 z1).2) rfl ?_
            exact ⟨Or.inr ⟨_, _, HV.out, Or.inr ⟨HE1.out, rfl⟩⟩, (hbl.setCell (p := ⟨w.heap.size, 0, none⟩) (Nat.le_refl _) _).setCell (p := ⟨w.heap.size, 1, none⟩) (Nat.le_refl _) _⟩
        · have e1' : (txE t != 0) = true := by simpa using e1
          have HE1 : Hid _ := e1
          clear e1
          as_aux_lemma =>
            go_wp2_with fail
            refine (HT1.out _).mono ?_
            rintro r w2 ⟨rfl, rfl⟩
            go_wp2_with fail
            (try simp only [Exit.inBlock, Exit.then]); refine bodyPost_ret (ret_wrong _ w.heap.size _ _ _ rfl (two_set z0 z1).1 (two_set z0 z1).2) rfl ?_
            exact ⟨Or.inr ⟨_, _, HV.out, Or.inl ⟨HE1.out, rfl⟩⟩, (hbl.setCell (p := ⟨w.heap.size, 0, none⟩) (Nat.le_refl _) _).setCell (p := ⟨w.heap.size, 1, none⟩) (Nat.le_refl _) _⟩
      have t0 : ((((ByteArray.mk l.toArray)[i]'hB).toNat : Int) != 34) = true := by rw [bne_iff_ne, hbe]; omega
      clear HTx
      by_cases g1 : l[i].toNat = 10
      · have t1 : ((((ByteArray.mk l.toArray)[i]'hB).toNat : Int) == 10) = true := by rw [beq_iff_eq, hbe]; omega
        have HV : Hid (valR (l.drop p) p = .error (5, i)) := HI.out.err (val_ten l i hlt g1)
        clear HI g0 g1 hbe hG
        as_aux_lemma =>
          go_wp2_with fail
          (try simp only [Exit.inBlock, Exit.then]); refine bodyPost_ret (ret_wrong _ w.heap.size _ _ _ rfl (two_set z0 z1).1 (two_set z0 z1).2) rfl ?_
          exact ⟨Or.inl ⟨_, _, HV.out, rfl⟩, (hbl.setCell (p := ⟨w.heap.size, 0, none⟩) (Nat.le_refl _) _).setCell (p := ⟨w.heap.size, 1, none⟩) (Nat.le_refl _) _⟩
      have t1 : ((((ByteArray.mk l.toArray)[i]'hB).toNat : Int) == 10) = false := by rw [beq_eq_false_iff_ne, hbe]; omega
      by_cases g2 : l[i].toNat = 92
      · have t2 : ((((ByteArray.mk l.toArray)[i]'hB).toNat : Int) == 92) = true := by rw [beq_iff_eq, hbe]; omega
        obtain ⟨j, hj⟩ : ∃ j, j = i + 1 := ⟨_, rfl⟩
        have hj' : (i : Int) + 1 = (j : Int) := by omega
        by_cases jlt : j < l.length
        · have jn : ((j : Int) == (l.length : Int)) = false := by rw [beq_eq_false_iff_ne]; omega
          have jlt' : (j : Int) < (l.length : Int) := by omega
          have hBj : j < (ByteArray.mk l.toArray).size := by show j < l.toArray.size; simpa using jlt
          have hbj : ((ByteArray.mk l.toArray)[j]'hBj).toNat = l[j].toNat := rfl
          have j256 : ((ByteArray.mk l.toArray)[j]'hBj).toNat < 256 := UInt8.toNat_lt _
          have hu := val_two l i (by omega) g2
          have hlj : l[i + 1]'(by omega) = l[j] := by congr 1; exact hj.symm
          rw [hlj, show i + 2 = j + 1 from by omega] at hu
          by_cases g3 : l[j].toNat = 92
          · have t3 : ((((ByteArray.mk l.toArray)[j]'hBj).toNat : Int) != 92) = false := by rw [bne_eq_false_iff_eq, hbj]; omega
            have t5 : ((((ByteArray.mk l.toArray)[j]'hBj).toNat : Int) == 110) = false := by rw [beq_eq_false_iff_ne, hbj]; omega
            rw [if_pos (Or.inl g3)] at hu
            have HI' : Hid (ValI l p (j + 1) (xs ++ [((ByteArray.mk l.toArray)[j]'hBj).toNat])) := HI.out.step j256 (by rw [hbj, byte_nat]) hu
            clear HI g0 g1 g2 g3 hbe hbj hu hlj hj
            as_aux_lemma =>
              go_wp2_with (first | (at_builtin; refine wpList_append_own _ rfl _ _ 51 rfl (w.heap.size + 1) 5 i0 (.int .u8 0) 1 1 Try.underlying51 hi0 hz0 hz1 hz2 rfl (by decide) _ _ _ rfl (hG.own.alloc _) ⟨_, 0, none⟩ 1 1 [_] rfl rfl (cell_one_new _ _ _) (by intro u hu; simp at hu; subst hu; rfl) (by unfold maxLen; omega) (by omega) (by have := hG.size; simp; omega) ?_; intro v' w7 hown hgrow hnil; have hG7 := hG.push (x := ((ByteArray.mk l.toArray)[j]'hBj).toNat) _ rfl hown hgrow hnil; clear hown hgrow hnil))
              exact ⟨⟨j + 1, _, by omega, by omega, by go_num, by simp; omega, HI', hG7⟩, by simp [intOf]; omega⟩
          have t3 : ((((ByteArray.mk l.toArray)[j]'hBj).toNat : Int) != 92) = true := by rw [bne_iff_ne, hbj]; omega
          by_cases g4 : l[j].toNat = 34
          · have t4 : ((((ByteArray.mk l.toArray)[j]'hBj).toNat : Int) != 34) = false := by rw [bne_eq_false_iff_eq, hbj]; omega
            have t5 : ((((ByteArray.mk l.toArray)[j]'hBj).toNat : Int) == 110) = false := by rw [beq_eq_false_iff_ne, hbj]; omega
            rw [if_pos (Or.inr g4)] at hu
            have HI' : Hid (ValI l p (j + 1) (xs ++ [((ByteArray.mk l.toArray)[j]'hBj).toNat])) := HI.out.step j256 (by rw [hbj, byte_nat]) hu
            clear HI g0 g1 g2 g3 g4 hbe hbj hu hlj hj
            as_aux_lemma =>
              go_wp2_with (first | (at_builtin; refine wpList_append_own _ rfl _ _ 51 rfl (w.heap.size + 1) 5 i0 (.int .u8 0) 1 1 Try.underlying51 hi0 hz0 hz1 hz2 rfl (by decide) _ _ _ rfl (hG.own.alloc _) ⟨_, 0, none⟩ 1 1 [_] rfl rfl (cell_one_new _ _ _) (by intro u hu; simp at hu; subst hu; rfl) (by unfold maxLen; omega) (by omega) (by have := hG.size; simp; omega) ?_; intro v' w7 hown hgrow hnil; have hG7 := hG.push (x := ((ByteArray.mk l.toArray)[j]'hBj).toNat) _ rfl hown hgrow hnil; clear hown hgrow hnil))
              exact ⟨⟨j + 1, _, by omega, by omega, by go_num, by simp; omega, HI', hG7⟩, by simp [intOf]; omega⟩
          have t4 : ((((ByteArray.mk l.toArray)[j]'hBj).toNat : Int) != 34) = true := by rw [bne_iff_ne, hbj]; omega
          rw [if_neg (fun k => Or.elim k g3 g4)] at hu
          by_cases g5 : l[j].toNat = 110
          · have t5 : ((((ByteArray.mk l.toArray)[j]'hBj).toNat : Int) != 110) = false := by rw [bne_eq_false_iff_eq, hbj]; omega
            have t6 : ((((ByteArray.mk l.toArray)[j]'hBj).toNat : Int) == 110) = true := by rw [beq_iff_eq, hbj]; omega
            rw [if_pos g5] at hu
            have HI' : Hid (ValI l p (j + 1) (xs ++ [10])) := HI.out.step (by decide) rfl hu
            clear HI g0 g1 g2 g3 g4 g5 hbe hbj hu hlj hj
            as_aux_lemma =>
              go_wp2_with (first | (at_builtin; refine wpList_append_own _ rfl _ _ 51 rfl (w.heap.size + 1) 5 i0 (.int .u8 0) 1 1 Try.underlying51 hi0 hz0 hz1 hz2 rfl (by decide) _ _ _ rfl (hG.own.alloc _) ⟨_, 0, none⟩ 1 1 [_] rfl rfl (cell_one_new _ _ _) (by intro u hu; simp at hu; subst hu; rfl) (by unfold maxLen; omega) (by omega) (by have := hG.size; simp; omega) ?_; intro v' w7 hown hgrow hnil; have hG7 := hG.push (x := 10) _ rfl hown hgrow hnil; clear hown hgrow hnil))
              exact ⟨⟨j + 1, _, by omega, by omega, by go_num, by simp; omega, HI', hG7⟩, by simp [intOf]; omega⟩
          · have t5 : ((((ByteArray.mk l.toArray)[j]'hBj).toNat : Int) != 110) = true := by rw [bne_iff_ne, hbj]; omega
            rw [if_neg g5] at hu
            have HV : Hid (valR (l.drop p) p = .error (5, i)) := HI.out.err hu
            clear HI g0 g1 g2 g3 g4 g5 hbe hbj hu hlj hj hG
            as_aux_lemma =>
              go_wp2_with fail
              (try simp only [Exit.inBlock, Exit.then]); refine bodyPost_ret (ret_wrong _ w.heap.size _ _ _ rfl (two_set z0 z1).1 (two_set z0 z1).2) rfl ?_
              exact ⟨Or.inl ⟨_, _, HV.out, rfl⟩, (hbl.setCell (p := ⟨w.heap.size, 0, none⟩) (Nat.le_refl _) _).setCell (p := ⟨w.heap.size, 1, none⟩) (Nat.le_refl _) _⟩
        · have jn : ((j : Int) == (l.length : Int)) = true := by rw [beq_iff_eq]; omega
          have HV : Hid (valR (l.drop p) p = .error (5, i)) := HI.out.err (val_last l i hlt g2 (by omega))
          clear HI g0 g1 g2 hbe hj hG
          as_aux_lemma =>
            go_wp2_with fail
            (try simp only [Exit.inBlock, Exit.then]); refine bodyPost_ret (ret_wrong _ w.heap.size _ _ _ rfl (two_set z0 z1).1 (two_set z0 z1).2) rfl ?_
            exact ⟨Or.inl ⟨_, _, HV.out, rfl⟩, (hbl.setCell (p := ⟨w.heap.size, 0, none⟩) (Nat.le_refl _) _).setCell (p := ⟨w.heap.size, 1, none⟩) (Nat.le_refl _) _⟩
      · have t2 : ((((ByteArray.mk l.toArray)[i]'hB).toNat : Int) == 92) = false := by rw [beq_eq_false_iff_ne, hbe]; omega
        have HI' : Hid (ValI l p (i + 1) (xs ++ [((ByteArray.mk l.toArray)[i]'hB).toNat])) := HI.out.step h256 (by rw [hbe, byte_nat]) (val_low l i hlt g0 g1 g2)
        clear HI g0 g1 g2 hbe
        as_aux_lemma =>
          go_wp2_with (first | (at_builtin; refine wpList_append_own _ rfl _ _ 51 rfl (w.heap.size + 1) 5 i0 (.int .u8 0) 1 1 Try.underlying51 hi0 hz0 hz1 hz2 rfl (by decide) _ _ _ rfl (hG.own.alloc _) ⟨_, 0, none⟩ 1 1 [_] rfl rfl (cell_one_new _ _ _) (by intro u hu; simp at hu; subst hu; rfl) (by unfold maxLen; omega) (by omega) (by have := hG.size; simp; omega) ?_; intro v' w7 hown hgrow hnil; have hG7 := hG.push (x := ((ByteArray.mk l.toArray)[i]'hB).toNat) _ rfl hown hgrow hnil; clear hown hgrow hnil))
          exact ⟨⟨i + 1, _, by omega, by omega, by go_num, by simp; omega, HI', hG7⟩, by simp [intOf]; omega⟩
    · have hlt' : ¬ (i : Int) < (l.length : Int) := by omega
      have ne : ((i : Int) == (l.length : Int)) = true := by rw [beq_iff_eq]; omega
      have HV : Hid (valR (l.drop p) p = .error (5, i)) := HI.out.err (val_end l i hlt)
      clear HI hG HTx
      as_aux_lemma =>
        go_wp2_with fail
        (try simp only [Exit.inBlock, Exit.then]); refine bodyPost_ret (ret_wrong _ w.heap.size _ _ _ rfl (two_set z0 z1).1 (two_set z0 z1).2) rfl ?_
        exact ⟨Or.inl ⟨_, _, HV.out, rfl⟩, (hbl.setCell (p := ⟨w.heap.size, 0, none⟩) (Nat.le_refl _) _).setCell (p := ⟨w.heap.size, 1, none⟩) (Nat.le_refl _) _⟩
end Go.Proofs.Ytmphajfhilpgeab
