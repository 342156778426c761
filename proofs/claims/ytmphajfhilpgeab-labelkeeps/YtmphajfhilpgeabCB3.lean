/- THE CODE'S escaped, unescape, Unhelp. Own work of the verifier. -/
import Derived.Test.YtmphajfhilpgeabCB2
namespace Go.Proofs.Ytmphajfhilpgeab
open Go.RowKit

/-- Which byte a backslash and what is behind it say. -/
def escP (q : Bool) : List UInt8 → Option UInt8
  | [] => none
  | b :: _ => if b.toNat = 110 then some 10 else if b.toNat = 92 ∨ q = true ∧ b.toNat = 34 then some b else none
/-- What escaped answers. -/
def TellsP (q : Bool) (l : List UInt8) (e : Ending) : Prop := (∃ b : UInt8, escP q l = some b ∧ e = .returned (.tuple #[.int .u8 (b.toNat : Int), .bool true])) ∨ (∃ z : Int, escP q l = none ∧ e = .returned (.tuple #[.int .u8 z, .bool false]))
set_option maxHeartbeats 1000000 in
theorem escp_any (q : Bool) (l : List UInt8) (w : World) :
    Calls Try.prog 55 #[.string ⟨l.toArray⟩, .string ⟨(spc q).toArray⟩] w fun r w' => TellsP q l r ∧ ∃ n, w' = w.drewN n := by
  have HX : Hid (∀ (b : UInt8) (W : World), Calls Try.prog 48 #[.string ⟨(spc q).toArray⟩, .int .u8 (b.toNat : Int)] W fun e w' => e = .returned (.int .i64 (Lib.indexByte (spc q) b)) ∧ w' = W) := fun b W => idx_any q b W
  have HQ : Hid (∀ b : UInt8, (0 : Int) ≤ Lib.indexByte (spc q) b ↔ (b.toNat = 92 ∨ q = true ∧ b.toNat = 34)) := fun b => idx_spc q b
  generalize spc q = sp at *
  cases l with
  | nil =>
    have HF : Hid (TellsP q [] (.returned (.tuple #[.int .u8 0, .bool false]))) := Or.inr ⟨0, rfl, rfl⟩
    clear HX HQ
    as_aux_lemma =>
      go_enter Try.func55, Try.ntmps55
      go_wp2_with fail
      go_ret2
      exact ⟨HF.out, 0, rfl⟩
  | cons b r =>
    have hne : ((b :: r) == []) = false := rfl
    have hBy : 0 < (ByteArray.mk (b :: r).toArray).size := by show 0 < (b :: r).toArray.size; simp
    have hbe : (ByteArray.mk (b :: r).toArray)[0]'hBy = b := rfl
    have HX1 : Hid _ := HX.out ((ByteArray.mk (b :: r).toArray)[0]'hBy)
    have hq := HQ.out ((ByteArray.mk (b :: r).toArray)[0]'hBy)
    rw [hbe] at hq
    have hE : escP q (b :: r) = if b.toNat = 110 then some 10 else if b.toNat = 92 ∨ q = true ∧ b.toNat = 34 then some b else none := rfl
    have hlen : (b :: r).length = r.length + 1 := rfl
    obtain ⟨l, hl⟩ : ∃ l, l = b :: r := ⟨_, rfl⟩
    have h0 : (0 : Int) < (l.length : Int) := by rw [hl, hlen]; omega
    rw [← hl] at hE
    by_cases g1 : b.toNat = 110
    · have t1 : ((b.toNat : Int) == 110) = true := by rw [beq_iff_eq]; omega
      have HF : Hid (TellsP q (b :: r) (.returned (.tuple #[.int .u8 10, .bool true]))) := Or.inl ⟨10, by rw [← hl, hE, if_pos g1], rfl⟩
      subst hl
      clear HX HQ HX1 hq hE g1
      as_aux_lemma =>
        go_enter Try.func55, Try.ntmps55
        go_wp2_with fail
        go_ret2
        exact ⟨HF.out, 0, rfl⟩
    · have t1 : ((b.toNat : Int) == 110) = false := by rw [beq_eq_false_iff_ne]; omega
      rw [if_neg g1] at hE
      by_cases g2 : b.toNat = 92 ∨ q = true ∧ b.toNat = 34
      · have t2 := hq.2 g2
        have HF : Hid (TellsP q (b :: r) (.returned (.tuple #[.int .u8 (b.toNat : Int), .bool true]))) := Or.inl ⟨b, by rw [← hl, hE, if_pos g2], rfl⟩
        rw [hbe] at HX1
        subst hl
        generalize Lib.indexByte sp b = z at *
        clear HX HQ hq hE g1 g2
        as_aux_lemma =>
          go_enter Try.func55, Try.ntmps55
          go_wp2_with fail
          go_quiet (first | (go_at_call 48; exact Calls.quiet_of_same (HX1.out _)))
          go_wp2_with fail
          go_ret2
          exact ⟨HF.out, _, rfl⟩
      · have t2 : ¬ (0 : Int) ≤ Lib.indexByte sp b := fun h => g2 (hq.1 h)
        have HF : Hid (TellsP q (b :: r) (.returned (.tuple #[.int .u8 (b.toNat : Int), .bool (decide ((0 : Int) ≤ Lib.indexByte sp b))]))) := by rw [decide_eq_false t2]; exact Or.inr ⟨_, by rw [← hl, hE, if_neg g2], rfl⟩
        rw [hbe] at HX1
        subst hl
        generalize Lib.indexByte sp b = z at *
        clear HX HQ hq hE g1 g2
        as_aux_lemma =>
          go_enter Try.func55, Try.ntmps55
          go_wp2_with fail
          go_quiet (first | (go_at_call 48; exact Calls.quiet_of_same (HX1.out _)))
          go_wp2_with fail
          go_ret2
          exact ⟨HF.out, _, rfl⟩
/-- A text read up to its end, or to a quote: what it says, and how far; or where it goes wrong. -/
def unE (q : Bool) : List UInt8 → Nat → Except Nat (List UInt8 × Nat)
  | [], p => .ok ([], p)
  | b :: r, p => if b.toNat = 10 then .error p else if b.toNat = 92 then
      match r with
      | [] => .error p
      | c :: r' => if c.toNat = 110 then (unE q r' (p + 2)).map fun t => (10 :: t.1, t.2) else if c.toNat = 92 ∨ q = true ∧ c.toNat = 34 then (unE q r' (p + 2)).map fun t => (c :: t.1, t.2) else .error p
    else if q = true ∧ b.toNat = 34 then .ok ([], p) else (unE q r (p + 1)).map fun t => (b :: t.1, t.2)
theorem ue_end (q : Bool) (l : List UInt8) (i : Nat) (h : ¬ i < l.length) : unE q (l.drop i) i = .ok ([], i) := by
  rw [List.drop_eq_nil_of_le (by omega), unE]
theorem ue_ten (q : Bool) (l : List UInt8) (i : Nat) (h : i < l.length) (h1 : l[i].toNat = 10) : unE q (l.drop i) i = .error i := by
  rw [List.drop_eq_getElem_cons h, unE.eq_def]
  simp only
  rw [if_pos h1]
theorem ue_quote (q : Bool) (l : List UInt8) (i : Nat) (h : i < l.length) (h1 : q = true ∧ l[i].toNat = 34) : unE q (l.drop i) i = .ok ([], i) := by
  rw [List.drop_eq_getElem_cons h, unE.eq_def]
  simp only
  rw [if_neg (by omega), if_neg (by omega), if_pos h1]
theorem ue_low (q : Bool) (l : List UInt8) (i : Nat) (h : i < l.length) (h0 : l[i].toNat ≠ 10) (h1 : l[i].toNat ≠ 92) (h2 : ¬ (q = true ∧ l[i].toNat = 34)) : unE q (l.drop i) i = (unE q (l.drop (i + 1)) (i + 1)).map fun t => (l[i] :: t.1, t.2) := by
  rw [List.drop_eq_getElem_cons h, unE.eq_def]
  simp only
  rw [if_neg h0, if_neg h1, if_neg h2]
theorem ue_back (q : Bool) (l : List UInt8) (i : Nat) (h : i < l.length) (h1 : l[i].toNat = 92) : unE q (l.drop i) i = match escP q (l.drop (i + 1)) with
    | none => .error i
    | some c => (unE q (l.drop (i + 2)) (i + 2)).map fun t => (c :: t.1, t.2) := by
  rw [List.drop_eq_getElem_cons h, unE.eq_def]
  simp only
  rw [if_neg (by omega), if_pos h1]
  by_cases k : i + 1 < l.length
  · rw [List.drop_eq_getElem_cons k]
    simp only [escP]
    by_cases e1 : l[i + 1].toNat = 110
    · simp only [e1, if_true]
    · simp only [e1, if_false]
      by_cases e2 : l[i + 1].toNat = 92 ∨ q = true ∧ l[i + 1].toNat = 34
      · simp only [e2, if_true]
      · simp only [e2, if_false]
  · rw [List.drop_eq_nil_of_le (by omega)]
    rfl
/-- How far unescape has come. -/
def UeI (q : Bool) (l : List UInt8) (i : Nat) (acc : List UInt8) : Prop := unE q l 0 = (unE q (l.drop i) i).map fun t => (acc ++ t.1, t.2)
theorem UeI.step {q : Bool} {l : List UInt8} {i j : Nat} {acc : List UInt8} {b : UInt8} (h : UeI q l i acc) (hd : unE q (l.drop i) i = (unE q (l.drop j) j).map fun t => (b :: t.1, t.2)) : UeI q l j (acc ++ [b]) := by
  unfold UeI at *
  rw [h, hd]
  cases unE q (l.drop j) j with
  | error e => rfl
  | ok t => simp [Except.map]
/-- What unescape answers. -/
def TellsE (q : Bool) (l : List UInt8) (e : Ending) : Prop := (∃ p : Nat, unE q l 0 = .error p ∧ e = .returned (.tuple #[.string ⟨#[]⟩, .int .i64 (p : Int), .bool false])) ∨ (∃ (t : List UInt8) (p : Nat), unE q l 0 = .ok (t, p) ∧ e = .returned (.tuple #[.string ⟨t.toArray⟩, .int .i64 (p : Int), .bool true]))
theorem UeI.bad {q : Bool} {l : List UInt8} {i : Nat} {acc : List UInt8} (h : UeI q l i acc) (hd : unE q (l.drop i) i = .error i) : TellsE q l (.returned (.tuple #[.string ⟨#[]⟩, .int .i64 (i : Int), .bool false])) :=
  Or.inl ⟨i, by rw [show unE q l 0 = _ from h, hd]; rfl, rfl⟩
theorem UeI.good {q : Bool} {l : List UInt8} {i : Nat} {acc : List UInt8} (h : UeI q l i acc) (hd : unE q (l.drop i) i = .ok ([], i)) : TellsE q l (.returned (.tuple #[.string ⟨acc.toArray⟩, .int .i64 (i : Int), .bool true])) :=
  Or.inr ⟨acc, i, by rw [show unE q l 0 = _ from h, hd]; simp [Except.map], rfl⟩
theorem BS.drewN {B k : Nat} {w0 W : World} {l : List UInt8} (h : BS B k w0 l W) (n : Nat) : BS B k w0 l (W.drewN n) := by
  induction n with
  | zero => exact h
  | succ n ih => exact ⟨ih.ib, ⟨ih.bl.os, ih.bl.tape, ih.bl.output, ih.bl.size, ih.bl.block⟩, ih.ok, ih.sz⟩
set_option maxHeartbeats 4000000 in
set_option maxRecDepth 100000 in
theorem unesc_any (q : Bool) (l : List UInt8) (hl : l.length ≤ 140737488355328) (w : World) :
    Calls Try.prog 28 #[.string ⟨l.toArray⟩, .string ⟨(spc q).toArray⟩] w fun r w' => TellsE q l r ∧ Below w.heap.size w w' := by
  have HX : Hid (∀ (b : UInt8) (W : World), Calls Try.prog 48 #[.string ⟨(spc q).toArray⟩, .int .u8 (b.toNat : Int)] W fun e w' => e = .returned (.int .i64 (Lib.indexByte (spc q) b)) ∧ w' = W) := fun b W => idx_any q b W
  have HQ : Hid (∀ b : UInt8, (0 : Int) ≤ Lib.indexByte (spc q) b ↔ (b.toNat = 92 ∨ q = true ∧ b.toNat = 34)) := fun b => idx_spc q b
  have HP : Hid (∀ (m : List UInt8) (W : World), Calls Try.prog 55 #[.string ⟨m.toArray⟩, .string ⟨(spc q).toArray⟩] W fun r w' => TellsP q m r ∧ ∃ n, w' = W.drewN n) := fun m W => escp_any q m W
  have HW : Hid (∀ (W : World) (acc : List UInt8) (b : UInt8), BS w.heap.size w.heap.size w acc W → acc.length + 1 ≤ 140737488355328 → Calls Try.prog 49 #[.pointer (some ⟨w.heap.size, 0, none⟩), .int .u8 (b.toNat : Int)] W fun e w' => e = .returned .nilIface ∧ BS w.heap.size w.heap.size w (acc ++ [b]) w') := fun W acc b h1 h2 => wb_any b h1 h2
  have HS : Hid (∀ (W : World) (acc : List UInt8), BS w.heap.size w.heap.size w acc W → Calls Try.prog 25 #[.pointer (some ⟨w.heap.size, 0, none⟩)] W fun e w' => e = .returned (.string ⟨acc.toArray⟩) ∧ BS w.heap.size w.heap.size w acc w') := fun W acc h => bstr_any h
  have HB0 : Hid (BS w.heap.size w.heap.size w [] (w.alloc (.cells #[.pointer none, .slice none 0 0] 53))) := BS.new w
  have HI0 : Hid (UeI q l 0 []) := by
    show unE q l 0 = _
    rw [List.drop_zero]
    cases unE q l 0 <;> rfl
  generalize spc q = sp at *
  go_enter Try.func28, Try.ntmps28
  go_wp2_with fail
  go_loopw [5] (fun a W => ∃ (i : Nat) (acc : List UInt8), i ≤ l.length ∧ acc.length ≤ i ∧ a = .int .i64 (i : Int) ∧ Hid (UeI q l i acc) ∧ Hid (BS w.heap.size w.heap.size w acc W)) (fun a _ => l.length - (intOf a).toNat)
  case atStart => exact ⟨0, [], by omega, by simp, rfl, HI0, HB0⟩
  case round =>
    clear HI0 HB0
    obtain ⟨i, acc, hi, hac, rfl, HI, HB⟩ := hrel
    by_cases hlt : i < l.length
    · have hlt' : (i : Int) < (l.length : Int) := by omega
      have hBy : i < (ByteArray.mk l.toArray).size := by show i < l.toArray.size; simpa using hlt
      have hbe : (ByteArray.mk l.toArray)[i]'hBy = l[i] := rfl
      by_cases g1 : l[i].toNat = 10
      · have t1 : ((((ByteArray.mk l.toArray)[i]'hBy).toNat : Int) == 10) = true := by rw [beq_iff_eq, hbe]; omega
        have HF : Hid _ := HI.out.bad (ue_ten q l i hlt g1)
        have hbl := HB.out.bl
        clear HX HQ HP HW HS HI HB g1 hbe
        as_aux_lemma =>
          go_wp2_with fail
          go_ret3
          exact ⟨HF.out, hbl⟩
      · have t1 : ((((ByteArray.mk l.toArray)[i]'hBy).toNat : Int) == 10) = false := by rw [beq_eq_false_iff_ne, hbe]; omega
        by_cases g2 : l[i].toNat = 92
        · have t2 : ((((ByteArray.mk l.toArray)[i]'hBy).toNat : Int) == 92) = true := by rw [beq_iff_eq, hbe]; omega
          obtain ⟨j, hj⟩ : ∃ j, j = i + 1 := ⟨_, rfl⟩
          have hj1 : (i : Int) + 1 = (j : Int) := by omega
          have hj2 : (j : Int) ≤ (l.length : Int) := by omega
          have hdr := drop_bytes l j
          have hu := ue_back q l i hlt g2
          rw [← hj] at hu
          have HP1 : Hid _ := HP.out (l.drop j)
          obtain ⟨m, hm⟩ : ∃ m, m = l.drop j := ⟨_, rfl⟩
          have hmn : ¬ i + 1 < l.length → m = [] := fun k => by rw [hm]; exact List.drop_eq_nil_of_le (by omega)
          rw [← hm] at hu HP1 hdr
          clear hm HX HQ HP g1 g2 hbe hj
          cases he : escP q m with
          | none =>
            rw [he] at hu
            have HF : Hid _ := HI.out.bad hu
            have hbl := HB.out.bl
            have HE : Hid _ := he
            clear hmn
            clear hu HW HS HI HB he
            as_aux_lemma =>
              go_wp2_with fail
              refine (HP1.out _).mono ?_
              rintro e w1 ⟨hT, n, rfl⟩
              rcases hT with ⟨b, hb, rfl⟩ | ⟨z, hb, rfl⟩
              · rw [HE.out] at hb; cases hb
              clear HP1 hb
              go_wp2_with fail
              go_ret3
              exact ⟨HF.out, bel_drewN hbl n⟩
          | some c =>
            rw [he] at hu
            have HI2 : Hid _ := HI.out.step hu
            have hle : i + 2 ≤ l.length := by
              rcases Nat.lt_or_ge (i + 1) l.length with k | k
              · omega
              · rw [hmn (by omega)] at he; cases he
            have HE : Hid _ := he
            clear hmn
            have HC : Hid (∀ n, Calls Try.prog 49 #[.pointer (some ⟨w.heap.size, 0, none⟩), .int .u8 (c.toNat : Int)] (wr.drewN n) fun e w' => e = .returned .nilIface ∧ BS w.heap.size w.heap.size w (acc ++ [c]) w') := fun n => HW.out _ acc c (HB.out.drewN n) (by omega)
            clear hu HW HS HI HB he
            as_aux_lemma =>
              go_wp2_with fail
              refine (HP1.out _).mono ?_
              rintro e w1 ⟨hT, n, rfl⟩
              rcases hT with ⟨b, hb, rfl⟩ | ⟨z, hb, rfl⟩
              · rw [HE.out] at hb
                cases hb
                clear HP1 HE
                go_wp2_with fail
                refine (HC.out _).mono ?_
                rintro e w2 ⟨rfl, hb⟩
                have HBn : Hid _ := hb
                clear HC hb
                go_wp2_with fail
                exact ⟨⟨i + 2, _, by omega, by simp; omega, by go_num, HI2, HBn⟩, by simp [intOf]; omega⟩
              · rw [HE.out] at hb; cases hb
        · have t2 : ((((ByteArray.mk l.toArray)[i]'hBy).toNat : Int) == 92) = false := by rw [beq_eq_false_iff_ne, hbe]; omega
          have HX1 : Hid _ := HX.out ((ByteArray.mk l.toArray)[i]'hBy)
          have hq := HQ.out ((ByteArray.mk l.toArray)[i]'hBy)
          rw [hbe] at hq HX1
          by_cases g3 : q = true ∧ l[i].toNat = 34
          · have t3 := hq.2 (Or.inr g3)
            have HF : Hid _ := HI.out.good (ue_quote q l i hlt g3)
            have HS1 : HidC _ _ _ _ _ := HS.out wr acc HB.out
            generalize Lib.indexByte sp l[i] = z at *
            clear HX HQ HP HW HS HI HB hq hbe g1 g2 g3
            as_aux_lemma =>
              go_wp2_with (go_at_call 48; refine (HX1.out _).mono ?_; rintro e1 w1 ⟨rfl, rfl⟩)
              refine (HS1.out).mono ?_
              rintro e w2 ⟨rfl, hb⟩
              have hbl := hb.bl
              clear hb HS1 HX1
              go_wp2_with fail
              go_ret3
              exact ⟨HF.out, hbl⟩
          · have t3 : ¬ (0 : Int) ≤ Lib.indexByte sp l[i] := fun h => (hq.1 h).elim g2 g3
            have HI2 : Hid (UeI q l (i + 1) (acc ++ [(ByteArray.mk l.toArray)[i]'hBy])) := HI.out.step (ue_low q l i hlt g1 g2 g3)
            have HC : HidC Try.prog 49 #[.pointer (some ⟨w.heap.size, 0, none⟩), .int .u8 ((((ByteArray.mk l.toArray)[i]'hBy).toNat : Nat) : Int)] wr (fun e w' => e = .returned .nilIface ∧ BS w.heap.size w.heap.size w (acc ++ [(ByteArray.mk l.toArray)[i]'hBy]) w') := HW.out wr acc _ HB.out (by omega)
            rw [hbe] at HI2 HC
            generalize Lib.indexByte sp l[i] = z at *
            clear HX HQ HP HW HS HI HB hq hbe g1 g2 g3
            as_aux_lemma =>
              go_wp2_with (go_at_call 48; refine (HX1.out _).mono ?_; rintro e1 w1 ⟨rfl, rfl⟩)
              refine (HC.out).mono ?_
              rintro e w2 ⟨rfl, hb⟩
              have HBn : Hid _ := hb
              clear hb HC HX1
              go_wp2_with fail
              exact ⟨⟨i + 1, _, by omega, by simp; omega, by go_num, HI2, HBn⟩, by simp [intOf]; omega⟩
    · have hlt' : ¬ (i : Int) < (l.length : Int) := by omega
      have HF : Hid _ := HI.out.good (ue_end q l i hlt)
      have HS1 : HidC _ _ _ _ _ := HS.out wr acc HB.out
      clear HX HQ HP HW HS HI HB
      as_aux_lemma =>
        go_wp2_with fail
        refine (HS1.out).mono ?_
        rintro e w2 ⟨rfl, hb⟩
        have hbl := hb.bl
        clear hb HS1
        go_wp2_with fail
        go_ret3
        exact ⟨HF.out, hbl⟩
theorem un_eq (l : List UInt8) : ∀ p, (unE false l p).toOption.map (·.1) = unL l := by
  induction l using unL.induct with
  | case1 => intro p; rfl
  | case2 b r h => intro p; rw [unE.eq_def, unL.eq_def]; simp only; rw [if_pos h, if_pos h]; rfl
  | case3 b h1 h2 => intro p; rw [unE.eq_def, unL.eq_def]; simp only; rw [if_neg h1, if_pos h2, if_neg h1, if_pos h2]; rfl
  | case4 b h1 h2 c r' h3 ih =>
    intro p
    rw [unE.eq_def, unL.eq_def]
    simp only
    rw [if_neg h1, if_pos h2, if_neg h1, if_pos h2, if_neg (by omega), if_pos (Or.inl h3), if_pos h3, ← ih (p + 2)]
    have hc : c = 92 := UInt8.toNat_inj.1 h3
    subst hc
    cases unE false r' (p + 2) <;> rfl
  | case5 b h1 h2 c r' h3 h4 ih =>
    intro p
    rw [unE.eq_def, unL.eq_def]
    simp only
    rw [if_neg h1, if_pos h2, if_neg h1, if_pos h2, if_pos h4, if_neg h3, if_pos h4, ← ih (p + 2)]
    cases unE false r' (p + 2) <;> rfl
  | case6 b h1 h2 c r' h3 h4 =>
    intro p
    rw [unE.eq_def, unL.eq_def]
    simp only
    rw [if_neg h1, if_pos h2, if_neg h1, if_pos h2, if_neg h4, if_neg (by simp [h3]), if_neg h3, if_neg h4]
    rfl
  | case7 b r h1 h2 ih =>
    intro p
    rw [unE.eq_def, unL.eq_def]
    simp only
    rw [if_neg h1, if_neg h2, if_neg h1, if_neg h2, if_neg (by simp), ← ih (p + 1)]
    cases unE false r (p + 1) <;> rfl
set_option maxHeartbeats 1000000 in
theorem cunhelp_any (l : List UInt8) (hl : l.length ≤ 140737488355328) (w : World) :
    Calls Try.prog 11 #[.string ⟨l.toArray⟩] w fun r w' => TellsU l r ∧ Below w.heap.size w w' := by
  have HE : HidC _ _ _ _ _ := unesc_any false l hl w
  have HU : Hid _ := un_eq l 0
  go_enter Try.func11, Try.ntmps11
  go_wp2_with fail
  refine (HE.out).mono ?_
  rintro e w1 ⟨hT, hb⟩
  rcases hT with ⟨p, hp, rfl⟩ | ⟨t, p, hp, rfl⟩
  · have HF : Hid (unL l = none) := by
      have := HU.out
      rw [hp] at this
      exact this.symm
    clear HU HE hp
    as_aux_lemma =>
      go_wp2_with fail
      go_ret2
      exact ⟨Or.inr ⟨HF.out, rfl⟩, hb⟩
  · have HF : Hid (unL l = some t) := by
      have := HU.out
      rw [hp] at this
      exact this.symm
    clear HU HE hp
    as_aux_lemma =>
      go_wp2_with fail
      go_ret2
      exact ⟨Or.inl ⟨t, HF.out, rfl⟩, hb⟩
end Go.Proofs.Ytmphajfhilpgeab
