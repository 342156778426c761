/- PoolOnce: THE WALK. Own work of the verifier. -/
import Derived.Test.YthghillefmppjaaDr
namespace Go.Proofs.Ythghillefmppjaa
open Go.RowKit

theorem fst_le (T : List Bool) : fst T ≤ T.length := List.findIdx_le_length
theorem fst_false {T : List Bool} (h : fst T < T.length) : T[fst T] = false := by
  have h2 := List.findIdx_getElem (p := fun t => !t) (xs := T) (w := h)
  have h3 : (!T[fst T]) = true := h2
  simpa using h3
theorem fst_true {T : List Bool} {j : Nat} (h : j < fst T) : T[j]? = some true := by
  have hl : j < T.length := Nat.lt_of_lt_of_le h (fst_le T)
  have := List.not_of_lt_findIdx (p := fun t => !t) (xs := T) h
  rw [List.getElem?_eq_getElem hl]
  simpa using this
theorem fst_set {T : List Bool} {x : Nat} (h : x < T.length) : fst (T.set x false) = min (fst T) x := by
  have hl := fst_le T
  have hm : min (fst T) x < T.length := by omega
  refine fst_eq (by rw [List.length_set]; exact hm) ?_ (fun j hj => ?_)
  · rw [List.getElem_set]
    split
    · rfl
    · rename_i hne
      have e : min (fst T) x = fst T := by omega
      have := fst_false (T := T) (by omega)
      simp only [e]
      exact this
  · rw [List.getElem?_set_ne (by omega)]
    exact fst_true (by omega)
theorem set_same {T : List Bool} {x : Nat} (h : x < T.length) (hf : T[x] = false) : T.set x false = T := by
  have := List.set_getElem_self h
  rw [hf] at this
  exact this
/-- The first i are taken. -/
def tr (i n : Nat) : List Bool := List.replicate i true ++ List.replicate (n - i) false
theorem tr_len {i n : Nat} (h : i ≤ n) : (tr i n).length = n := by simp [tr]; omega
theorem tr_get {i n : Nat} (h : i < n) : (tr i n)[i]? = some false := by
  unfold tr
  rw [List.getElem?_append_right (by simp), List.length_replicate, Nat.sub_self, List.getElem?_replicate, if_pos (by omega)]
theorem tr_fst {i n : Nat} (h : i ≤ n) : fst (tr i n) = i := by
  have hb : ∀ j, j < i → (tr i n)[j]? = some true := fun j hj => by
    unfold tr
    rw [List.getElem?_append_left (by simpa using hj)]
    simp [hj]
  rcases Nat.lt_or_ge i n with c | c
  · have hg := tr_get c
    have hl : i < (tr i n).length := by rw [tr_len h]; exact c
    rw [List.getElem?_eq_getElem hl] at hg
    exact fst_eq hl (by simpa using hg) hb
  · have e : i = n := by omega
    subst e
    have := fst_none (T := tr i i) (fun j hj => hb j (by rw [tr_len (Nat.le_refl _)] at hj; exact hj))
    rw [tr_len (Nat.le_refl _)] at this
    exact this
theorem tr_set {i n : Nat} (h : i < n) : (tr i n).set i true = tr (i + 1) n := by
  unfold tr
  rw [List.set_append_right _ _ (by simp), List.length_replicate, Nat.sub_self, List.replicate_succ', List.append_assoc]
  have e : n - i = (n - (i + 1)) + 1 := by omega
  rw [e, List.replicate_succ]
  rfl
/-- The pool and what the law has seen of it. -/
structure PO (w : World) (b g : Nat) (T : List Bool) (W : World) : Prop where
  cp : CP W b T
  rb : RB W g T
  bel : Below w.heap.size w W
  hb : w.heap.size ≤ b
  hg : w.heap.size ≤ g
theorem po_take {w : World} {b g : Nat} {T : List Bool} {W : World} (h : PO w b g T W) (hT : T.length ≤ 16) :
    Calls Try.prog 9 #[.pointer (some ⟨b, 0, none⟩)] W fun e w' => e = tk T ∧ Hid (CP w' b (T.set (fst T) true)) ∧ Hid (RB w' g T) ∧ Hid (Below w.heap.size w w') := by
  refine (take_any b T W h.cp hT).mono ?_
  rintro e w' ⟨rfl, q1, q2⟩
  exact ⟨rfl, q1, h.rb.chg q2 (fun e => cp_ne h.cp h.rb e.symm), h.bel.trans (q2.below h.bel.size (fun x hx => by have := h.hb; omega))⟩
theorem po_give {w : World} {b g x : Nat} {T : List Bool} {W : World} (h : PO w b g T W) (hT : T.length ≤ 16) (hx : x < T.length) (hf : T[x]? = some true) :
    Calls Try.prog 10 #[.pointer (some ⟨b, 0, none⟩), .int .i64 (x : Int)] W fun e w' => e = .returned (.int .i64 0) ∧ Hid (CP w' b (T.set x false)) ∧ Hid (RB w' g T) ∧ Hid (Below w.heap.size w w') := by
  refine (give_ok b x T W h.cp hT hx hf).mono ?_
  rintro e w' ⟨rfl, q1, q2⟩
  exact ⟨rfl, q1, h.rb.chg q2 (fun e => cp_ne h.cp h.rb e.symm), h.bel.trans (q2.below h.bel.size (fun x hx => by have := h.hb; omega))⟩
theorem po_set {w : World} {b g i : Nat} {T T' : List Bool} {y : Bool} {W : World} (h1 : CP W b T') (h2 : RB W g T) (h3 : Below w.heap.size w W) (hb : w.heap.size ≤ b) (hg : w.heap.size ≤ g) (e : T.set i y = T') : PO w b g T' (W.setCell ⟨g, i, none⟩ (.bool y)) := by
  subst e
  have hne := cp_ne h1 h2
  have c := chg_set W g i (.bool y)
  exact ⟨h1.chg c hne, h2.set i y, h3.trans (c.below h3.size (fun x hx => by omega)), hb, hg⟩
set_option maxRecDepth 10000 in
set_option maxHeartbeats 4000000 in
theorem po_no (n : Int) (hn : ¬ (1 ≤ n ∧ n ≤ 16)) (v : Value) (w : World) :
    Calls Try.prog 4 #[.int .i64 n, v] w fun e w' => e = .returned (.bool true) ∧ Below w.heap.size w w' := by
  have HF : Hid (∀ W, Calls Try.prog 5 #[] W fun e w' => e = .returned (.bool true) ∧ Hid (Below W.heap.size W w')) := fixed_any
  have Pn : Hid (∀ W, Calls Try.prog 6 #[.int .i64 n] W fun e w' => e = .returned (.tuple #[.pointer none, .int .i64 1]) ∧ w' = W) := fun W => new_arg n hn W
  by_cases c : n < 1
  · clear hn
    go_enter Try.func4, Try.ntmps4
    go_wp2_with (first
      | (go_at_call 5; with_reducible refine (HF.out _).mono ?_; rintro e w0 ⟨rfl, B0⟩)
      | (go_at_call 6; with_reducible refine (Pn.out _).mono ?_; rintro e w0 ⟨rfl, rfl⟩))
    go_ret
    exact ⟨rfl, B0.out⟩
  · have c2 : 16 < n := by omega
    clear hn
    go_enter Try.func4, Try.ntmps4
    go_wp2_with (first
      | (go_at_call 5; with_reducible refine (HF.out _).mono ?_; rintro e w0 ⟨rfl, B0⟩)
      | (go_at_call 6; with_reducible refine (Pn.out _).mono ?_; rintro e w0 ⟨rfl, rfl⟩))
    go_ret
    exact ⟨rfl, B0.out⟩
theorem min_val (a x : Nat) : Value.int IntKind.i64 (if x < a then (x : Int) else (a : Int)) = .int .i64 ((min a x : Nat) : Int) := by
  congr 1
  split <;> omega
set_option maxRecDepth 10000 in
set_option maxHeartbeats 4000000 in
theorem po_yes (n : Nat) (n1 : 1 ≤ n) (n2 : n ≤ 16) (ao : Option Addr) (b0 off cap : Nat) (L : List Int) (w : World) (hL : NR w b0 off L) (hao : 0 < L.length → ao = some ⟨b0, off, none⟩) (hlen : L.length ≤ 9223372036854775807) :
    Calls Try.prog 4 #[.int .i64 (n : Int), .slice ao L.length cap] w fun e w' => e = .returned (.bool true) ∧ Below w.heap.size w w' := by
  have HF : Hid (∀ W, Calls Try.prog 5 #[] W fun e w' => e = .returned (.bool true) ∧ Hid (Below W.heap.size W w')) := fixed_any
  have Pn : Hid (∀ W, Calls Try.prog 6 #[.int .i64 (n : Int)] W fun e w' => e = .returned (.tuple #[.pointer (some ⟨W.heap.size, 0, none⟩), .int .i64 0]) ∧ Hid (CP w' W.heap.size (List.replicate n false)) ∧ Hid (Below W.heap.size W w')) := fun W => new_ok n n1 n2 W
  have hM := make_bools n n2
  have d1 : ¬ (n : Int) < 1 := by omega
  have d2 : ¬ 16 < (n : Int) := by omega
  have HL := hid_of hL
  clear hL
  go_enter Try.func4, Try.ntmps4
  go_upto_region 7 with (first
    | (go_at_call 5; with_reducible refine (HF.out _).mono ?_; rintro e w0 ⟨rfl, B0⟩)
    | (go_at_call 6; with_reducible refine (Pn.out _).mono ?_; rintro e w1 ⟨rfl, C1, B1⟩))
  go_upto_region 8 with fail
  have HP : Hid (PO w w0.heap.size w1.heap.size (tr 0 n) (w1.alloc (.cells (Array.replicate n (Value.bool false)) 4))) := by
    have e : tr 0 n = List.replicate n false := by simp [tr]
    unfold Hid
    rw [e]
    refine ⟨C1.out.bel (bel1 _ _), ?_, bt (bt B0.out B1.out) (bel1 _ _), B0.out.size, Nat.le_trans B0.out.size B1.out.size⟩
    unfold RB
    rw [bl_rep]
    exact new_1 _ _
  clear C1 B1 B0 HF Pn hM
  generalize w1.alloc (.cells (Array.replicate n (Value.bool false)) 4) = w2 at *
  generalize w0.heap.size = b at *
  generalize w1.heap.size = g at *
  go_upto_region 9 with fail
  go_loopw [9] (fun x W => ∃ i : Nat, i ≤ n ∧ x = .int .i64 (i : Int) ∧ Hid (PO w b g (tr i n) W)) (fun x _ => n - (intOf x).toNat)
  case atStart => exact ⟨0, by omega, rfl, HP⟩
  case round =>
    clear HP
    obtain ⟨i, hi, rfl, HP⟩ := hrel
    by_cases hlt : i < n
    · have hlt' : (i : Int) < (n : Int) := by omega
      have hf := tr_fst hi
      have HT : Hid (∀ W, PO w b g (tr i n) W → Calls Try.prog 9 #[.pointer (some ⟨b, 0, none⟩)] W fun e w' => e = .returned (.tuple #[.int .i64 (i : Int), .int .i64 0]) ∧ Hid (CP w' b (tr (i + 1) n)) ∧ Hid (RB w' g (tr i n)) ∧ Hid (Below w.heap.size w w')) := fun W h => by
        have q := po_take h (by rw [tr_len hi]; exact n2)
        rw [← tk_yes hf (by rw [tr_len hi]; exact hlt), hf, tr_set hlt] at q
        exact q
      clear hf
      go_upto_region 12 with (go_at_call 9; with_reducible refine (HT.out _ HP.out).mono ?_; rintro e w3 ⟨rfl, C3, R3, B3⟩)
      have hc : w3.cell? ⟨g, i, none⟩ = some (.bool false) := by
        have h1 := R3.out.cell i (by rw [tr_len hi]; exact hlt)
        have h2 := tr_get hlt
        rw [List.getElem?_eq_getElem (by rw [tr_len hi]; exact hlt)] at h2
        rw [h1]
        simpa using h2
      have hfr := R3.out.fr i
      have HN := hid_of (po_set C3.out R3.out B3.out HP.out.hb HP.out.hg (tr_set hlt))
      clear HT HP C3 R3 B3
      go_wp2_with fail
      exact ⟨⟨i + 1, by omega, by go_num, HN⟩, by simp [intOf]; omega⟩
    · have hlt' : ¬ (i : Int) < (n : Int) := by omega
      have hie : i = n := by omega
      subst hie
      have hf := tr_fst (Nat.le_refl i)
      have HT : Hid (∀ W, PO w b g (tr i i) W → Calls Try.prog 9 #[.pointer (some ⟨b, 0, none⟩)] W fun e w' => e = .returned (.tuple #[.int .i64 0, .int .i64 14]) ∧ Hid (CP w' b (tr i i)) ∧ Hid (RB w' g (tr i i)) ∧ Hid (Below w.heap.size w w')) := fun W h => by
        have hl : (tr i i).length = i := tr_len (Nat.le_refl i)
        have q := po_take h (by rw [hl]; exact n2)
        rw [← tk_no (by rw [hl]; exact hf), hf, List.set_eq_of_length_le (by rw [hl]; exact Nat.le_refl _)] at q
        exact q
      have HFs : Hid (fst (tr i i) = i) := hf
      have HTl : Hid ((tr i i).length = i) := tr_len (Nat.le_refl i)
      clear hf
      go_upto_region 16 with (go_at_call 9; with_reducible refine (HT.out _ HP.out).mono ?_; rintro e w3 ⟨rfl, C3, R3, B3⟩)
      have HQ : Hid (PO w b g (tr i i) w3) := ⟨C3.out, R3.out, B3.out, HP.out.hb, HP.out.hg⟩
      clear HT HP C3 R3 B3
      go_upto_region 20 with fail
      go_loopw [14, 15] (fun l x W => ∃ (j : Nat) (T : List Bool), j ≤ L.length ∧ x = .int .i64 (j : Int) ∧ l = .int .i64 (fst T : Int) ∧ Hid (T.length = i) ∧ Hid (PO w b g T W)) (fun _ x _ => L.length - (intOf x).toNat)
      case atStart => exact ⟨0, tr i i, by omega, rfl, by rw [HFs.out], HTl, HQ⟩
      case round =>
        clear HQ HFs HTl
        obtain ⟨j, T, hj, rfl, rfl, HTl, HP⟩ := hrel
        by_cases hjl : j < L.length
        · have hjl' : (j : Int) < (L.length : Int) := by omega
          obtain rfl := hao (by omega)
          have hcj := HL.out.bel HP.out.bel j hjl
          have HC := hid_of (fun (W : World) (hb : Below w.heap.size w W) => HL.out.bel hb j hjl)
          have hbg : Hid (b0 < w.heap.size) := by
            have := World.block_lt_of_cell? w _ (HL.out j hjl)
            exact this
          generalize L[j] = z at hcj HC
          clear hao
          by_cases hm : 0 ≤ z ∧ z < (i : Int)
          · obtain ⟨x, rfl⟩ := Int.eq_ofNat_of_zero_le hm.1
            have hx : x < T.length := by rw [HTl.out]; omega
            have hx1 : (x : Int) < (i : Int) := hm.2
            have hmin := fst_set hx
            clear hm
            by_cases hf : T[x] = false
            · have HG : Hid (∀ W, CP W b T → Calls Try.prog 10 #[.pointer (some ⟨b, 0, none⟩), .int .i64 (x : Int)] W fun e w' => e = .returned (.int .i64 8) ∧ ∃ n, w' = W.drewN n) := fun W h => give_state b x T W h (by rw [HTl.out]; exact n2) hx (by rw [List.getElem?_eq_getElem hx, hf])
              have cx := HP.out.rb.cell x hx
              have fx := HP.out.rb.fr x
              rw [hf] at cx
              have HN : Hid (∀ n, PO w b g (T.set x false) ((wr.drewN n).setCell ⟨g, x, none⟩ (.bool false))) := fun n => po_set (by rw [set_same hx hf]; exact HP.out.cp.drewN n) (HP.out.rb.bel (bel_drewN (Below.refl _ _) n)) (bel_drewN HP.out.bel n) HP.out.hb HP.out.hg rfl
              have HM := hid_of hmin
              have HTn : Hid ((T.set x false).length = i) := by unfold Hid; rw [List.length_set]; exact HTl.out
              have hne : ¬ g = b0 := by have := hbg.out; have := HP.out.hg; omega
              have hne' : ¬ b0 = g := fun e => hne e.symm
              clear hmin hf
              go_wp2_with (go_at_call 10; with_reducible refine (HG.out _ HP.out.cp).mono ?_; rintro e w4 ⟨rfl, m, rfl⟩)
              exact ⟨⟨j + 1, T.set x false, by omega, by go_num, by rw [HM.out]; exact min_val _ _, HTn, HN.out m⟩, by simp [intOf]; omega⟩
            · have hf1 : T[x] = true := by simpa using hf
              have HG : Hid (∀ W, PO w b g T W → Calls Try.prog 10 #[.pointer (some ⟨b, 0, none⟩), .int .i64 (x : Int)] W fun e w' => e = .returned (.int .i64 0) ∧ Hid (CP w' b (T.set x false)) ∧ Hid (RB w' g T) ∧ Hid (Below w.heap.size w w')) := fun W h => po_give h (by rw [HTl.out]; exact n2) hx (by rw [List.getElem?_eq_getElem hx, hf1])
              have HM := hid_of hmin
              have HTn : Hid ((T.set x false).length = i) := by unfold Hid; rw [List.length_set]; exact HTl.out
              have hne : ¬ g = b0 := by have := hbg.out; have := HP.out.hg; omega
              have hne' : ¬ b0 = g := fun e => hne e.symm
              have HF1 := hid_of hf1
              clear hmin hf hf1
              go_upto_region 23 with (go_at_call 10; with_reducible refine (HG.out _ HP.out).mono ?_; rintro e w4 ⟨rfl, C4, R4, B4⟩)
              have hc4 := HC.out w4 B4.out
              have cx := R4.out.cell x hx
              have fx := R4.out.fr x
              rw [HF1.out] at cx
              have HN := hid_of (po_set C4.out R4.out B4.out HP.out.hb HP.out.hg rfl)
              clear HG HP C4 R4 B4 HC
              go_wp2_with fail
              exact ⟨⟨j + 1, T.set x false, by omega, by go_num, by rw [HM.out]; exact min_val _ _, HTn, HN⟩, by simp [intOf]; omega⟩
          · have hm1 : ¬ (0 ≤ z ∧ z < (T.length : Int)) := by rw [HTl.out]; exact hm
            have HG : Hid (∀ W, CP W b T → Calls Try.prog 10 #[.pointer (some ⟨b, 0, none⟩), .int .i64 z] W fun e w' => e = .returned (.int .i64 1) ∧ w' = W) := fun W h => give_arg b T z W h hm1
            clear hm1
            by_cases hz : 0 ≤ z
            · have hz2 : (i : Int) ≤ z := by omega
              clear hm
              go_wp2_with (go_at_call 10; with_reducible refine (HG.out _ HP.out.cp).mono ?_; rintro e w4 ⟨rfl, rfl⟩)
              exact ⟨⟨j + 1, T, by omega, by go_num, rfl, HTl, HP⟩, by simp [intOf]; omega⟩
            · clear hm
              go_wp2_with (go_at_call 10; with_reducible refine (HG.out _ HP.out.cp).mono ?_; rintro e w4 ⟨rfl, rfl⟩)
              exact ⟨⟨j + 1, T, by omega, by go_num, rfl, HTl, HP⟩, by simp [intOf]; omega⟩
        · have hjl' : ¬ (j : Int) < (L.length : Int) := by omega
          have hle := fst_le T
          rw [HTl.out] at hle
          by_cases hfi : fst T < i
          · have HT : Hid (∀ W, PO w b g T W → Calls Try.prog 9 #[.pointer (some ⟨b, 0, none⟩)] W fun e w' => e = .returned (.tuple #[.int .i64 (fst T : Int), .int .i64 0]) ∧ Hid (Below w.heap.size w w')) := fun W h => by
              have q := po_take h (by rw [HTl.out]; exact n2)
              rw [← tk_yes rfl (by rw [HTl.out]; exact hfi)] at q
              refine q.mono ?_
              rintro e w' ⟨rfl, _, _, q4⟩
              exact ⟨rfl, q4⟩
            generalize fst T = ft at *
            have hfi' : (ft : Int) < (i : Int) := by omega
            have hfn : ¬ (ft : Int) = (i : Int) := by omega
            clear hao
            go_wp2_with (go_at_call 9; with_reducible refine (HT.out _ HP.out).mono ?_; rintro e w5 ⟨rfl, B5⟩)
            go_ret
            exact ⟨rfl, B5.out⟩
          · have hfe : fst T = i := by omega
            have HT : Hid (∀ W, PO w b g T W → Calls Try.prog 9 #[.pointer (some ⟨b, 0, none⟩)] W fun e w' => e = .returned (.tuple #[.int .i64 0, .int .i64 14]) ∧ Hid (Below w.heap.size w w')) := fun W h => by
              have q := po_take h (by rw [HTl.out]; exact n2)
              rw [← tk_no (by rw [HTl.out]; exact hfe)] at q
              refine q.mono ?_
              rintro e w' ⟨rfl, _, _, q4⟩
              exact ⟨rfl, q4⟩
            rw [hfe]
            clear hao hfe hfi hle
            go_wp2_with (go_at_call 9; with_reducible refine (HT.out _ HP.out).mono ?_; rintro e w5 ⟨rfl, B5⟩)
            go_ret
            exact ⟨rfl, B5.out⟩
end Go.Proofs.Ythghillefmppjaa
