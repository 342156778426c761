/- escaped, Help, Unhelp, the document's. Own work of the verifier. -/
import Derived.Test.YtmphajfhilpgeabLA6
import Derived.OwnWalk
namespace Go.Proofs.Ytmphajfhilpgeab
open Go.RowKit

theorem infoByte : (Try.prog.info? 5).map (fun i => (i.zero, i.size, i.bytes)) = some (some (.int .u8 0), 1, 1) := by kernel_rfl
theorem cell_two_new (w : World) (x y : Value) (t : TypeId) : ∀ j u, [x, y][j]? = some u → (w.alloc (.cells #[x, y] t)).cell? ((⟨w.heap.size, 0, none⟩ : Addr).add j) = some u := by
  intro j u hj
  match j, hj with
  | 0, hj => simp at hj; subst hj; simp [go_sem]
  | 1, hj => simp at hj; subst hj; simp [go_sem]
  | k + 2, hj => simp at hj
/-- A row of bytes as a text. -/
theorem GB.text {B : Nat} {W0 w : World} {v : Value} {xs : List Nat} (h : GB B 5 bV W0 v xs w) (hx : ∀ x ∈ xs, x < 256) : (convert 51 9 v).run Try.prog w = .ok (.string ⟨(txs xs).toArray⟩) w := by
  obtain ⟨g, cap, cur, rfl, hB, hcur, _, _, h5, h6⟩ := own_ofG h.own h.nz
  have hl : (txs xs).length = xs.length := by unfold txs; rw [List.length_map]
  have hc := run_convert_bytes_back (P := Try.prog) w 51 9 5 ⟨g, 0, none⟩ cap (txs xs) Try.underlying51 Try.underlying5 Try.underlying9 (fun k hk => by
    have hk' : k < xs.length := by omega
    have e1 : cur[k]? = some (bV xs[k]) := by
      have : (cur.toList.take xs.length)[k]? = some (bV xs[k]) := by
        rw [h6, List.getElem?_map, List.getElem?_eq_getElem hk']
        rfl
      rw [List.getElem?_take, if_pos hk'] at this
      rw [← Array.getElem?_toList]
      exact this
    have a2 : (⟨g, 0, none⟩ : Addr).add k = ⟨g, k, none⟩ := by
      unfold Addr.add
      by_cases h0 : k = 0
      · subst h0; rfl
      · rw [if_neg h0]; simp
    have a3 : (txs xs)[k] = UInt8.ofNat xs[k] := by simp only [txs, List.getElem_map]
    have a4 : xs[k] < 256 := hx _ (List.getElem_mem hk')
    rw [a2, a3, UInt8.toNat_ofNat', Nat.mod_eq_of_lt a4]
    simp [World.cell?, hcur, e1]
    rfl)
  rw [hl] at hc
  exact hc
/-- A text in which some bytes are written by two. -/
def esc1 (q : Bool) (b : UInt8) : List UInt8 := if b.toNat = 92 ∨ q = true ∧ b.toNat = 34 then [92, b] else if b.toNat = 10 then [92, 110] else [b]
def escL (q : Bool) : List UInt8 → List UInt8
  | [] => []
  | b :: r => esc1 q b ++ escL q r
theorem escL_drop (q : Bool) (l : List UInt8) (i : Nat) (h : i < l.length) : escL q (l.drop i) = esc1 q l[i] ++ escL q (l.drop (i + 1)) := by
  rw [List.drop_eq_getElem_cons h, escL]
theorem txs_app (a b : List Nat) : txs (a ++ b) = txs a ++ txs b := by unfold txs; rw [List.map_append]
theorem byte_nat (b : UInt8) : UInt8.ofNat b.toNat = b := by simp
/-- How far the loop has come: xs stands for what is written already. -/
def EscI (q : Bool) (l : List UInt8) (i : Nat) (xs : List Nat) : Prop := escL q l = txs xs ++ escL q (l.drop i) ∧ (∀ x ∈ xs, x < 256)
theorem EscI.step {q : Bool} {l : List UInt8} {i : Nat} {xs ys : List Nat} (h : EscI q l i xs) (hi : i < l.length) (hy : txs ys = esc1 q l[i]) (hb : ∀ y ∈ ys, y < 256) : EscI q l (i + 1) (xs ++ ys) := by
  obtain ⟨h1, h2⟩ := h
  refine ⟨?_, fun x hx => ?_⟩
  · rw [h1, escL_drop q l i hi, txs_app, hy, List.append_assoc]
  · rcases List.mem_append.1 hx with g | g
    · exact h2 x g
    · exact hb x g
set_option maxHeartbeats 4000000 in
set_option maxRecDepth 100000 in
theorem escaped_any (l : List UInt8) (q : Bool) (hl : l.length ≤ 35184372088832) (w : World) :
    Calls Try.prog 37 #[.string ⟨l.toArray⟩, .bool q] w fun r w' => r = .returned (.string ⟨(escL q l).toArray⟩) ∧ Below w.heap.size w w' := by
  obtain ⟨i0, hi0, hz0, hz1, hz2⟩ := info_parts infoByte
  have HS : Hid (EscI q l 0 []) := ⟨rfl, fun x hx => by cases hx⟩
  go_enter Try.func37, Try.ntmps37
  go_wp2_with fail
  go_loopw [5, 6] (fun v a W => ∃ (i : Nat) (xs : List Nat), i ≤ l.length ∧ a = .int .i64 (i : Int) ∧ xs.length ≤ 2 * i ∧ Hid (EscI q l i xs) ∧ GB w.heap.size 5 bV w v xs W) (fun _ a _ => l.length - (intOf a).toNat)
  case atStart => exact ⟨0, [], by omega, rfl, by simp, HS, GB.new w⟩
  case round =>
    clear HS
    obtain ⟨i, xs, hi, rfl, hxl, HI, hG⟩ := hrel
    by_cases hlt : i < l.length
    · have hlt' : (i : Int) < (l.length : Int) := by omega
      have hB : i < (ByteArray.mk l.toArray).size := by show i < l.toArray.size; simpa using hlt
      have hbe : ((ByteArray.mk l.toArray)[i]'hB).toNat = l[i].toNat := rfl
      have h256 : ((ByteArray.mk l.toArray)[i]'hB).toNat < 256 := UInt8.toNat_lt _
      have two : ∀ (x y : Nat), x < 256 → y < 256 → ∀ z ∈ [x, y], z < 256 := fun x y hx hy z hz => by
        simp at hz; rcases hz with rfl | rfl
        · exact hx
        · exact hy
      by_cases g1 : l[i].toNat = 92
      · have t1 : ((((ByteArray.mk l.toArray)[i]'hB).toNat : Int) == 92) = true := by rw [beq_iff_eq, hbe]; omega
        have HI' : Hid (EscI q l (i + 1) (xs ++ [92, ((ByteArray.mk l.toArray)[i]'hB).toNat])) := HI.out.step hlt (by unfold esc1; rw [if_pos (Or.inl g1)]; show [UInt8.ofNat 92, UInt8.ofNat l[i].toNat] = _; rw [byte_nat]; rfl) (two _ _ (by decide) h256)
        clear HI g1 hbe two
        as_aux_lemma =>
          go_wp2_with (first | (at_builtin; refine wpList_append_own _ rfl _ _ 51 rfl w.heap.size 5 i0 (.int .u8 0) 1 1 Try.underlying51 hi0 hz0 hz1 hz2 rfl (by decide) _ _ _ rfl (hG.own.alloc _) ⟨_, 0, none⟩ 2 2 [_, _] rfl rfl (cell_two_new _ _ _ _) (by intro u hu; simp at hu; rcases hu with rfl | rfl <;> rfl) (by unfold maxLen; omega) (by omega) (by have := hG.size; simp; omega) ?_; intro v' w7 hown hgrow hnil; have hG7 := hG.push2 (x := 92) (y := ((ByteArray.mk l.toArray)[i]'hB).toNat) _ rfl rfl hown hgrow hnil; clear hown hgrow hnil))
          exact ⟨⟨i + 1, _, by omega, by go_num, by simp; omega, HI', hG7⟩, by simp [intOf]; omega⟩
      have t1 : ((((ByteArray.mk l.toArray)[i]'hB).toNat : Int) == 92) = false := by rw [beq_eq_false_iff_ne, hbe]; omega
      cases q
      · have g2 : ¬ (false = true) := by decide
        by_cases g3 : l[i].toNat = 10
        · have t3 : ((((ByteArray.mk l.toArray)[i]'hB).toNat : Int) == 10) = true := by rw [beq_iff_eq, hbe]; omega
          have HI' : Hid (EscI false l (i + 1) (xs ++ [92, 110])) := HI.out.step hlt (by unfold esc1; rw [if_neg (fun k => Or.elim k g1 (fun k => g2 k.1)), if_pos g3]; rfl) (two _ _ (by decide) (by decide))
          clear HI g1 g2 g3 hbe two
          as_aux_lemma =>
            go_wp2_with (first | (at_builtin; refine wpList_append_own _ rfl _ _ 51 rfl w.heap.size 5 i0 (.int .u8 0) 1 1 Try.underlying51 hi0 hz0 hz1 hz2 rfl (by decide) _ _ _ rfl (hG.own.alloc _) ⟨_, 0, none⟩ 2 2 [_, _] rfl rfl (cell_two_new _ _ _ _) (by intro u hu; simp at hu; rcases hu with rfl | rfl <;> rfl) (by unfold maxLen; omega) (by omega) (by have := hG.size; simp; omega) ?_; intro v' w7 hown hgrow hnil; have hG7 := hG.push2 (x := 92) (y := 110) _ rfl rfl hown hgrow hnil; clear hown hgrow hnil))
            exact ⟨⟨i + 1, _, by omega, by go_num, by simp; omega, HI', hG7⟩, by simp [intOf]; omega⟩
        · have t3 : ((((ByteArray.mk l.toArray)[i]'hB).toNat : Int) == 10) = false := by rw [beq_eq_false_iff_ne, hbe]; omega
          have HI' : Hid (EscI false l (i + 1) (xs ++ [((ByteArray.mk l.toArray)[i]'hB).toNat])) := HI.out.step hlt (by unfold esc1; rw [if_neg (fun k => Or.elim k g1 (fun k => g2 k.1)), if_neg g3]; show [UInt8.ofNat l[i].toNat] = _; rw [byte_nat]) (fun z hz => by rw [List.mem_singleton.1 hz]; exact h256)
          clear HI g1 g2 g3 hbe two
          as_aux_lemma =>
            go_wp2_with (first | (at_builtin; refine wpList_append_own _ rfl _ _ 51 rfl w.heap.size 5 i0 (.int .u8 0) 1 1 Try.underlying51 hi0 hz0 hz1 hz2 rfl (by decide) _ _ _ rfl (hG.own.alloc _) ⟨_, 0, none⟩ 1 1 [_] rfl rfl (cell_one_new _ _ _) (by intro u hu; simp at hu; subst hu; rfl) (by unfold maxLen; omega) (by omega) (by have := hG.size; simp; omega) ?_; intro v' w7 hown hgrow hnil; have hG7 := hG.push (x := ((ByteArray.mk l.toArray)[i]'hB).toNat) _ rfl hown hgrow hnil; clear hown hgrow hnil))
            exact ⟨⟨i + 1, _, by omega, by go_num, by simp; omega, HI', hG7⟩, by simp [intOf]; omega⟩
      · by_cases g2 : l[i].toNat = 34
        · have t2 : ((((ByteArray.mk l.toArray)[i]'hB).toNat : Int) == 34) = true := by rw [beq_iff_eq, hbe]; omega
          have HI' : Hid (EscI true l (i + 1) (xs ++ [92, ((ByteArray.mk l.toArray)[i]'hB).toNat])) := HI.out.step hlt (by unfold esc1; rw [if_pos (Or.inr ⟨rfl, g2⟩)]; show [UInt8.ofNat 92, UInt8.ofNat l[i].toNat] = _; rw [byte_nat]; rfl) (two _ _ (by decide) h256)
          clear HI g1 g2 hbe two
          as_aux_lemma =>
            go_wp2_with (first | (at_builtin; refine wpList_append_own _ rfl _ _ 51 rfl w.heap.size 5 i0 (.int .u8 0) 1 1 Try.underlying51 hi0 hz0 hz1 hz2 rfl (by decide) _ _ _ rfl (hG.own.alloc _) ⟨_, 0, none⟩ 2 2 [_, _] rfl rfl (cell_two_new _ _ _ _) (by intro u hu; simp at hu; rcases hu with rfl | rfl <;> rfl) (by unfold maxLen; omega) (by omega) (by have := hG.size; simp; omega) ?_; intro v' w7 hown hgrow hnil; have hG7 := hG.push2 (x := 92) (y := ((ByteArray.mk l.toArray)[i]'hB).toNat) _ rfl rfl hown hgrow hnil; clear hown hgrow hnil))
            exact ⟨⟨i + 1, _, by omega, by go_num, by simp; omega, HI', hG7⟩, by simp [intOf]; omega⟩
        · have t2 : ((((ByteArray.mk l.toArray)[i]'hB).toNat : Int) == 34) = false := by rw [beq_eq_false_iff_ne, hbe]; omega
          by_cases g3 : l[i].toNat = 10
          · have t3 : ((((ByteArray.mk l.toArray)[i]'hB).toNat : Int) == 10) = true := by rw [beq_iff_eq, hbe]; omega
            have HI' : Hid (EscI true l (i + 1) (xs ++ [92, 110])) := HI.out.step hlt (by unfold esc1; rw [if_neg (fun k => Or.elim k g1 (fun k => g2 k.2)), if_pos g3]; rfl) (two _ _ (by decide) (by decide))
            clear HI g1 g2 g3 hbe two
            as_aux_lemma =>
              go_wp2_with (first | (at_builtin; refine wpList_append_own _ rfl _ _ 51 rfl w.heap.size 5 i0 (.int .u8 0) 1 1 Try.underlying51 hi0 hz0 hz1 hz2 rfl (by decide) _ _ _ rfl (hG.own.alloc _) ⟨_, 0, none⟩ 2 2 [_, _] rfl rfl (cell_two_new _ _ _ _) (by intro u hu; simp at hu; rcases hu with rfl | rfl <;> rfl) (by unfold maxLen; omega) (by omega) (by have := hG.size; simp; omega) ?_; intro v' w7 hown hgrow hnil; have hG7 := hG.push2 (x := 92) (y := 110) _ rfl rfl hown hgrow hnil; clear hown hgrow hnil))
              exact ⟨⟨i + 1, _, by omega, by go_num, by simp; omega, HI', hG7⟩, by simp [intOf]; omega⟩
          · have t3 : ((((ByteArray.mk l.toArray)[i]'hB).toNat : Int) == 10) = false := by rw [beq_eq_false_iff_ne, hbe]; omega
            have HI' : Hid (EscI true l (i + 1) (xs ++ [((ByteArray.mk l.toArray)[i]'hB).toNat])) := HI.out.step hlt (by unfold esc1; rw [if_neg (fun k => Or.elim k g1 (fun k => g2 k.2)), if_neg g3]; show [UInt8.ofNat l[i].toNat] = _; rw [byte_nat]) (fun z hz => by rw [List.mem_singleton.1 hz]; exact h256)
            clear HI g1 g2 g3 hbe two
            as_aux_lemma =>
              go_wp2_with (first | (at_builtin; refine wpList_append_own _ rfl _ _ 51 rfl w.heap.size 5 i0 (.int .u8 0) 1 1 Try.underlying51 hi0 hz0 hz1 hz2 rfl (by decide) _ _ _ rfl (hG.own.alloc _) ⟨_, 0, none⟩ 1 1 [_] rfl rfl (cell_one_new _ _ _) (by intro u hu; simp at hu; subst hu; rfl) (by unfold maxLen; omega) (by omega) (by have := hG.size; simp; omega) ?_; intro v' w7 hown hgrow hnil; have hG7 := hG.push (x := ((ByteArray.mk l.toArray)[i]'hB).toNat) _ rfl hown hgrow hnil; clear hown hgrow hnil))
              exact ⟨⟨i + 1, _, by omega, by go_num, by simp; omega, HI', hG7⟩, by simp [intOf]; omega⟩
    · have hlt' : ¬ (i : Int) < (l.length : Int) := by omega
      have hcv := hG.text HI.out.2
      have HE : Hid (escL q l = txs xs) := by
        have := HI.out.1
        rw [List.drop_eq_nil_of_le (by omega), escL, List.append_nil] at this
        exact this
      have hbl := hG.below
      clear HI
      as_aux_lemma =>
        go_wp2_with fail
        go_ret
        exact ⟨congrArg (fun z : List UInt8 => Ending.returned (Value.string ⟨z.toArray⟩)) HE.out.symm, hbl⟩
/-- And back. -/
def unL : List UInt8 → Option (List UInt8)
  | [] => some []
  | b :: r => if b.toNat = 10 then none else if b.toNat = 92 then
      match r with
      | [] => none
      | c :: r' => if c.toNat = 92 then (unL r').map (92 :: ·) else if c.toNat = 110 then (unL r').map (10 :: ·) else none
    else (unL r).map (b :: ·)
end Go.Proofs.Ytmphajfhilpgeab
