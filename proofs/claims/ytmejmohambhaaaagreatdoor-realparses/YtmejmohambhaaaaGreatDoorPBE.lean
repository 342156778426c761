/- Parse: the document's, of layer 2, at every text; Same. Own work of the verifier. -/
import Derived.Test.YtmejmohambhaaaaGreatDoorPBD
import Derived.Test.YtmejmohambhaaaaGreatDoorPB4
import Derived.Test.YtmejmohambhaaaaGreatDoorPB7
import Derived.Test.YtmejmohambhaaaaGreatDoorPB9
import Derived.Test.YtmejmohambhaaaaGreatDoorOR1
import Derived.SliceStrings
import Derived.Lib.SmallJoins
import Derived.Carry
import Derived.SizedLaws
import Derived.ProofKit
import Derived.OpenShut
import Derived.ChangeSlices
namespace Go.Proofs.YtmejmohambhaaaaGreatDoor
open Go.RowKit Soft

set_option maxHeartbeats 400000 in
theorem dsame_true (x y : Nat) (hx : x < 18446744073709551616) (hy : y < 18446744073709551616) (h : rk x = rk y) (w : World) :
    Calls Tryz.prog 13 #[.float .f64 x, .float .f64 y] w fun e w' => e = .returned (.bool true) ∧ w' = w := by
  have HX : Hid _ := rank_any x hx
  have HY : Hid _ := rank_any y hy
  rw [h] at HX
  generalize rk y = r at *
  go_enter Tryz.func13, Tryz.ntmps13
  go_wp2_with fail
  refine (HX.out _).mono ?_
  rintro e w1 ⟨rfl, rfl⟩
  go_wp2_with fail
  refine (HY.out _).mono ?_
  rintro e w2 ⟨rfl, rfl⟩
  go_wp2_with fail
  go_ret
  exact ⟨rfl, rfl⟩
/-- The texts of digits are the floats'. -/
theorem text_digs (b c : Nat) (e : Int) (h0 : 1 ≤ b) (h1 : b < 9218868437227405312) (h : DigsOf b c e) : txt (Lib.decDigits c) e = pText b := by
  have := same_text b c e (by omega) (by omega) (digs_all b c e h0 h1 h)
  rw [decide_eq_false (by omega)] at this
  exact this
theorem text_minus (b : Nat) (h0 : 1 ≤ b) (h1 : b < 9218868437227405312) : pText (b + 9223372036854775808) = 45 :: pText b := by
  obtain ⟨s1, s2, s3, s4⟩ := sd_bounds b (by omega) (by omega)
  obtain ⟨c, j, e, hc⟩ := strip_ex (sd b).1 s1
  have hS : SameD b c ((sd b).2 + j + (Lib.nDigits c : Int) - 1) := ⟨j, e, hc, rfl⟩
  have hm : (b + 9223372036854775808) % 9223372036854775808 = b := by omega
  have hS' := hS
  rw [← hm, sd_sign] at hS'
  have t1 := same_text b _ _ (by omega) (by omega) hS
  have t2 := same_text (b + 9223372036854775808) _ _ (by omega) (by omega) hS'
  rw [decide_eq_false (by omega)] at t1
  rw [decide_eq_true (by omega)] at t2
  rw [hm] at t2
  rw [← t1, ← t2]
  rfl
/-- The special floats that Parse looks at first. -/
def spc (j : Nat) : Nat := [9221120237041090560, 9218868437227405312, 18442240474082181120, 0, 9223372036854775808].getD j 0
theorem spc_lt (j : Nat) : spc j < 18446744073709551616 := by
  unfold spc
  match j with
  | 0 | 1 | 2 | 3 | 4 => decide
  | n + 5 => simp
def DocP (l : List UInt8) (e : Ending) : Prop := (∃ u, e = .returned (.tuple #[.float .f64 u, .int .i64 0]) ∧ u < 18446744073709551616 ∧ pText u = l) ∨ (e = .returned (.tuple #[.float .f64 0, .int .i64 5]) ∧ ∀ a, a < 18446744073709551616 → pText a ≠ l)
/-- A text that is a float's, but no special one's, is that of a finite float behind its sign. -/
theorem text_some (l u : List UInt8) (m : Bool) (hl : l = sgn m ++ u) (hm : m = false → ∀ r, l ≠ 45 :: r) (hsp : ∀ j, j < 5 → pText (spc j) ≠ l) (a : Nat) (ha : a < 18446744073709551616) (ht : pText a = l) :
    ∃ b, 1 ≤ b ∧ b < 9218868437227405312 ∧ pText b = u := by
  by_cases z : a % 9223372036854775808 = 0
  · rcases (show a = 0 ∨ a = 9223372036854775808 by omega) with rfl | rfl
    · exact absurd ht (hsp 3 (by decide))
    · exact absurd ht (hsp 4 (by decide))
  · by_cases n : 9218868437227405312 < a % 9223372036854775808
    · refine absurd ?_ (hsp 0 (by decide))
      rw [← ht, text_nan a n]
      exact text_nan _ (by decide)
    · by_cases i : a % 9223372036854775808 = 9218868437227405312
      · rcases (show a = 9218868437227405312 ∨ a = 18442240474082181120 by omega) with rfl | rfl
        · exact absurd ht (hsp 1 (by decide))
        · exact absurd ht (hsp 2 (by decide))
      · rcases Nat.lt_or_ge a 9223372036854775808 with g | g
        · have hh := head_x a z (by omega)
          cases m
          · exact ⟨a, by omega, by omega, by rw [ht, hl]; rfl⟩
          · exfalso
            have : pText a = 45 :: u := by rw [ht, hl]; rfl
            rw [this] at hh
            have := hh.1 rfl
            omega
        · obtain ⟨b, rfl⟩ : ∃ b, a = b + 9223372036854775808 := ⟨a - 9223372036854775808, by omega⟩
          have tm := text_minus b (by omega) (by omega)
          rw [ht] at tm
          cases m
          · exact absurd tm (hm rfl _)
          · rw [hl] at tm
            exact ⟨b, by omega, by omega, (List.cons.inj tm).2.symm⟩
end Go.Proofs.YtmejmohambhaaaaGreatDoor
/- Parse: the document's, of layer 2, at every text: THE WALK. Own work of the verifier. -/
namespace Go.Proofs.YtmejmohambhaaaaGreatDoor
open Go.RowKit Soft

def SpR (g : Nat) (W : World) : Prop := ∀ j, j < 5 → W.cell? ⟨g, j, none⟩ = some (.int .u64 ((spc j : Nat) : Int))
theorem SpR.below {g : Nat} {w w' : World} (h : SpR g w) (hb : Below w.heap.size w w') : SpR g w' := fun j hj => by
  rw [hb.cell (p := ⟨g, j, none⟩) (lt_of_cell (h j hj))]; exact h j hj
theorem spR_new (w : World) (t : TypeId) : SpR w.heap.size (w.alloc (.cells #[.int .u64 9221120237041090560, .int .u64 9218868437227405312, .int .u64 18442240474082181120, .int .u64 0, .int .u64 9223372036854775808] t)) := fun j hj => by
  match j, hj with
  | 0, _ => simp [go_sem]; rfl
  | 1, _ => simp [go_sem]; rfl
  | 2, _ => simp [go_sem]; rfl
  | 3, _ => simp [go_sem]; rfl
  | 4, _ => simp [go_sem]; rfl
set_option maxHeartbeats 4000000 in
set_option maxRecDepth 100000 in
theorem dparse_any (l : List UInt8) (hlen : l.length ≤ 9223372036854775807) (w : World) :
    Calls Tryz.prog 12 #[.string ⟨l.toArray⟩] w fun e w' => DocP l e ∧ Below w.heap.size w w' := by
  have HP : Hid (∀ u, u < 18446744073709551616 → ∀ W, Calls Tryz.prog 8 #[.float .f64 u] W fun e w' => e = .returned (.string ⟨(pText u).toArray⟩) ∧ Below W.heap.size W w') := fun u hu W => (dprint_any u hu W).mono fun e w' ⟨t, he, ht, hb⟩ => ⟨by rw [he, doc_text u hu t ht], hb⟩
  have HD : Hid (∀ u : List UInt8, u.length ≤ 40 → ∀ W, Calls Tryz.prog 23 #[.string ⟨u.toArray⟩] W fun e w' => TellsD u e ∧ w' = W) := fun u hu W => decimal_any u hu W
  have HNr : Hid (∀ (c : Nat) (s : Int), c < 18446744073709551616 → -1100 ≤ s → s ≤ 1100 → ∀ W, Calls Tryz.prog 24 #[.int .u64 (c : Int), .int .i64 s] W fun e w' => ∃ b : Nat, e = .returned (.int .u64 (b : Int)) ∧ b < 9218868437227405312 ∧ NearB c s b ∧ Below W.heap.size W w') := fun c s h0 h1 h2 W => nearest_any c s h0 h1 h2 W
  have HTx : Hid (∀ b : Nat, 1 ≤ b → b < 9218868437227405312 → ∀ W, Calls Tryz.prog 21 #[.int .u64 (b : Int)] W fun e w' => e = .returned (.string ⟨(pText b).toArray⟩) ∧ Below W.heap.size W w') := fun b h0 h1 W => (text_any b h0 h1 W).mono fun e w' ⟨c, x, he, hd, hb⟩ => ⟨by rw [he, text_digs b c x h0 h1 hd], hb⟩
  go_enter Tryz.func12, Tryz.ntmps12
  go_wp2_with fail
  go_loopw [5] (fun a W => ∃ i : Nat, i ≤ 5 ∧ a = .int .i64 (i : Int) ∧ Hid (∀ j, j < i → pText (spc j) ≠ l) ∧ Hid (SpR w.heap.size W) ∧ Below w.heap.size w W) (fun a _ => 5 - (intOf a).toNat)
  case atStart => exact ⟨0, by omega, rfl, (fun j hj => by omega), spR_new w _, bel1 w _⟩
  case round =>
    obtain ⟨i, hi, rfl, HSp, HR, hb⟩ := hrel
    by_cases hlt : i < 5
    · have hlt' : (i : Int) < 5 := by omega
      have hcell := HR.out i hlt
      have hx := spc_lt i
      have HSp' : Hid (pText (spc i) ≠ l → ∀ j, j < i + 1 → pText (spc j) ≠ l) := fun h j hj => by
        rcases Nat.lt_or_ge j i with g | g
        · exact HSp.out j g
        · obtain rfl : j = i := by omega
          exact h
      generalize spc i = x at *
      have hfr := mf64from (x : Int)
      rw [Int.toNat_natCast] at hfr
      have HP1 : Hid _ := HP.out x hx
      have HX : Hid (pText x = l → DocP l (.returned (.tuple #[.float .f64 x, .int .i64 0]))) := fun h => Or.inl ⟨x, rfl, hx, h⟩
      generalize pText x = T at *
      clear HP HD HNr HTx HSp
      as_aux_lemma =>
        go_wp2_with fail
        refine (HP1.out _).mono ?_
        rintro e w1 ⟨rfl, hb1⟩
        have hbw := hb.trans (hb1.mono hb.size)
        have HR1 : Hid _ := HR.out.below hb1
        clear HP1 HR hcell hb hb1
        by_cases hT : T = l
        · subst hT
          have HX' : Hid _ := HX.out rfl
          clear HX HSp'
          as_aux_lemma =>
            go_wp2_with fail
            go_ret2
            exact ⟨HX'.out, hbw⟩
        · have hT' : (T == l) = false := by simpa using hT
          have HS2 : Hid _ := HSp'.out hT
          clear HX HSp' hT
          as_aux_lemma =>
            go_wp2_with fail
            exact ⟨⟨i + 1, by omega, by go_num, HS2, HR1, hbw⟩, by simp [intOf]; omega⟩
    · obtain rfl : i = 5 := by omega
      have hlt' : ¬ ((5 : Nat) : Int) < 5 := by omega
      clear HR HP
      by_cases h32 : 32 < l.length
      · have h32' : (32 : Int) < (l.length : Int) := by omega
        have HX : Hid (DocP l (.returned (.tuple #[.float .f64 0, .int .i64 5]))) := Or.inr ⟨rfl, fun a _ h => by have := text_len a; rw [h] at this; omega⟩
        clear HD HNr HTx HSp
        as_aux_lemma =>
          go_wp2_with fail
          go_ret2
          exact ⟨HX.out, hb⟩
      have h32' : ¬ (32 : Int) < (l.length : Int) := by omega
      as_aux_lemma =>
      go_upto_region 11 with fail
      go_cut [8] from 34 (fun v W => ∃ m : Bool, v = .bool m ∧ (m = true ↔ ∃ r, l = 45 :: r) ∧ W = wr)
      case first =>
        clear HD HNr HTx HSp
        cases l with
        | nil =>
          as_aux_lemma =>
            go_wp2_with fail
            go_meet
            exact ⟨false, rfl, ⟨(fun h => by cases h), (fun ⟨r, h⟩ => by cases h)⟩, rfl⟩
        | cons c r =>
          have hB : 0 < (ByteArray.mk (c :: r).toArray).size := by show 0 < (c :: r).toArray.size; simp
          have hbe : ((ByteArray.mk (c :: r).toArray)[0]'hB).toNat = c.toNat := rfl
          have hpos : (0 : Int) < ((c :: r).length : Int) := by rw [List.length_cons]; omega
          by_cases c45 : c.toNat = 45
          · have t45 : ((((ByteArray.mk (c :: r).toArray)[0]'hB).toNat : Int) == 45) = true := by rw [beq_iff_eq, hbe]; omega
            have hc : c = 45 := UInt8.toNat_inj.1 c45
            have HC : Hid _ := hc
            clear hbe c45 hc
            as_aux_lemma =>
              go_wp2_with fail
              go_meet
              exact ⟨true, rfl, ⟨(fun _ => ⟨r, by rw [HC.out]⟩), (fun _ => rfl)⟩, rfl⟩
          · have t45 : ((((ByteArray.mk (c :: r).toArray)[0]'hB).toNat : Int) == 45) = false := by rw [beq_eq_false_iff_ne, hbe]; omega
            have HC : Hid (c ≠ 45) := fun h => c45 (by rw [h]; rfl)
            clear hbe c45
            as_aux_lemma =>
              go_wp2_with fail
              go_meet
              exact ⟨false, rfl, ⟨(fun h => by cases h), (fun ⟨r', h⟩ => absurd (List.cons.inj h).1 HC.out)⟩, rfl⟩
      case rest =>
      obtain ⟨m, rfl, hm, hwc⟩ := hcut
      subst wc
      have HM : Hid _ := hm
      clear hm
      go_upto_if 42 with fail
      go_cut [7] from 43 (fun v W => ∃ u : List UInt8, v = .string ⟨u.toArray⟩ ∧ Hid (l = sgn m ++ u) ∧ u.length ≤ 32 ∧ W = wr)
      case first =>
        clear HD HNr HTx HSp
        cases m
        · as_aux_lemma =>
            go_wp2_with fail
            go_meet
            exact ⟨l, rfl, rfl, by omega, rfl⟩
        · obtain ⟨r, hr⟩ := HM.out.1 rfl
          clear HM
          subst hr
          have ht := tail_bytes 45 r
          have hr1 : r.length ≤ 32 := by rw [List.length_cons] at h32; omega
          as_aux_lemma =>
            go_wp2_with fail
            go_meet
            exact ⟨r, rfl, rfl, hr1, rfl⟩
      case rest =>
      obtain ⟨u, rfl, HL, hu, hwc⟩ := hcut
      subst wc
      have HSome : Hid (∀ a, a < 18446744073709551616 → pText a = l → ∃ b, 1 ≤ b ∧ b < 9218868437227405312 ∧ pText b = u) := fun a ha ht => text_some l u m HL.out (fun h r e => by have := HM.out.2 ⟨r, e⟩; rw [h] at this; cases this) HSp.out a ha ht
      have HD1 : Hid _ := HD.out u (by omega)
      clear HD HSp HM
      go_wp2_with fail
      refine (HD1.out _).mono ?_
      rintro e w1 ⟨hT, hw1⟩
      subst w1
      clear HD1
      rcases hT with ⟨c, s, hdv, rfl⟩ | ⟨hdv, rfl⟩
      · obtain ⟨b1, b2, b3, b4⟩ := decV_len hdv
        have HN1 : Hid _ := HNr.out c s (by omega) (by omega) (by omega)
        have HDV : Hid _ := hdv
        clear HNr hdv
        go_wp2_with fail
        refine (HN1.out _).mono ?_
        rintro e w2 ⟨b, rfl, hbi, hnb, hb2⟩
        have hbw := hb.trans (hb2.mono hb.size)
        have HK : Hid (∀ a, a < 18446744073709551616 → pText a = l → 1 ≤ b ∧ pText b = u) := fun a ha ht => by
          obtain ⟨a', h0, h1, h2⟩ := HSome.out a ha ht
          obtain ⟨c', s', e1, e2, e3⟩ := dec_float a' h0 h1
          rw [h2, HDV.out] at e1
          obtain ⟨rfl, rfl⟩ := Prod.mk.inj (Option.some.inj e1)
          have := hnb e2 a' h0 h1 e3
          subst this
          exact ⟨h0, h2⟩
        clear HN1 hnb HDV HSome hb hb2
        by_cases hz : b = 0
        · have hz' : ((b : Int) == 0) = true := by rw [beq_iff_eq]; omega
          have HX : Hid (DocP l (.returned (.tuple #[.float .f64 0, .int .i64 5]))) := Or.inr ⟨rfl, fun a ha h => by have := (HK.out a ha h).1; omega⟩
          clear HK HTx hz
          as_aux_lemma =>
            go_wp2_with fail
            go_ret2
            exact ⟨HX.out, hbw⟩
        have hz' : ((b : Int) == 0) = false := by rw [beq_eq_false_iff_ne]; omega
        have HT1 : Hid _ := HTx.out b (by omega) hbi
        by_cases hT : pText b = u
        · have hfr0 := mf64from (b : Int)
          rw [Int.toNat_natCast] at hfr0
          have hor := or_sign b (by omega)
          obtain ⟨b', hb'⟩ : ∃ b', b' = b + 9223372036854775808 := ⟨_, rfl⟩
          have hfr1 := mf64from (b' : Int)
          rw [Int.toNat_natCast] at hfr1
          have HX0 : Hid (m = false → DocP l (.returned (.tuple #[.float .f64 b, .int .i64 0]))) := fun h => Or.inl ⟨b, rfl, by omega, by rw [HL.out, h, hT]; rfl⟩
          have HX1 : Hid (m = true → DocP l (.returned (.tuple #[.float .f64 b', .int .i64 0]))) := fun h => Or.inl ⟨b', rfl, by omega, by rw [HL.out, h, hb', text_minus b (by omega) hbi, hT]; rfl⟩
          rw [← hb'] at hor
          rw [hT] at HT1
          clear HK HTx hz hT hb' HL
          as_aux_lemma =>
            go_wp2_with fail
            refine (HT1.out _).mono ?_
            rintro e w3 ⟨rfl, hb3⟩
            have hbw' := hbw.trans (hb3.mono hbw.size)
            clear HT1 hbw hb3
            cases m
            · have HX : Hid _ := HX0.out rfl
              clear HX0 HX1
              as_aux_lemma =>
                go_wp2_with fail
                go_ret2
                exact ⟨HX.out, hbw'⟩
            · have HX : Hid _ := HX1.out rfl
              clear HX0 HX1
              as_aux_lemma =>
                go_wp2_with fail
                go_ret2
                exact ⟨HX.out, hbw'⟩
        · have HX : Hid (DocP l (.returned (.tuple #[.float .f64 0, .int .i64 5]))) := Or.inr ⟨rfl, fun a ha h => hT (HK.out a ha h).2⟩
          generalize pText b = T at *
          have hT' : (T == u) = false := by simpa using hT
          clear HK HTx hz hT HL
          as_aux_lemma =>
            go_wp2_with fail
            refine (HT1.out _).mono ?_
            rintro e w3 ⟨rfl, hb3⟩
            have hbw' := hbw.trans (hb3.mono hbw.size)
            clear HT1 hbw hb3
            go_wp2_with fail
            go_ret2
            exact ⟨HX.out, hbw'⟩
      · have HX : Hid (DocP l (.returned (.tuple #[.float .f64 0, .int .i64 5]))) := Or.inr ⟨rfl, fun a ha h => by
          obtain ⟨a', h0, h1, h2⟩ := HSome.out a ha h
          obtain ⟨c', s', e1, _⟩ := dec_float a' h0 h1
          rw [h2, hdv] at e1
          cases e1⟩
        clear HNr HTx HSome hdv
        as_aux_lemma =>
          go_wp2_with fail
          go_ret2
          exact ⟨HX.out, hb⟩
end Go.Proofs.YtmejmohambhaaaaGreatDoor
/- RealParses: THE WALK, THE ROW AND THE CARD. Own work of the verifier. -/
namespace Go.Proofs.YtmejmohambhaaaaGreatDoor
open Go.RowKit Soft

/-- Texts, one behind the other. -/
def RowT (w : World) (b o : Nat) (L : List ByteArray) : Prop := ∀ i (h : i < L.length), w.cell? ⟨b, o + i, none⟩ = some (.string L[i])
theorem RowT.below {w w1 : World} {b o : Nat} {L : List ByteArray} (h : RowT w b o L) (hb : Below w.heap.size w w1) : RowT w1 b o L := fun i hi => by
  rw [hb.cell (p := ⟨b, o + i, none⟩) (lt_of_cell (h i hi))]; exact h i hi
/-- What the walk keeps. -/
def KT (w : World) (b o : Nat) (L : List ByteArray) (W : World) : Prop := Glob2 W ∧ GlobR W ∧ Errs W ∧ Blks W ∧ RowT W b o L ∧ Below w.heap.size w W
theorem keepT {w W W1 : World} {b o : Nat} {L : List ByteArray} (hb : Below W.heap.size W W1) (h : KT w b o L W) : KT w b o L W1 := by
  obtain ⟨h1, h2, h3, h4, h5, h6⟩ := h
  have hk := h4.below hb
  exact ⟨h1.below hb, h2.below hb hk.eq, h3.below hb, hk, h5.below hb, h6.trans (hb.mono h6.size)⟩
/-- THE PROGRAM'S Parse AT EVERY TEXT: the float whose text it is, or none. -/
theorem cparse_any (l : List UInt8) (hlen : l.length ≤ 9223372036854775807) (w : World) (hG : Glob2 w) (hR : GlobR w) (hE : Errs w) :
    Calls Tryz.prog 11 #[.string ⟨l.toArray⟩] w fun e w' => DocP l e ∧ Below w.heap.size w w' := by
  by_cases h : ∃ a, a < 18446744073709551616 ∧ pText a = l
  · obtain ⟨a, ha, rfl⟩ := h
    have hg : 8 < w.heap.size := lt_of_cell (hG.glob.pow 0 (by decide)).1
    refine (Parse_all a ha w hG hR.p10 hg).mono fun e w' ⟨⟨u, he, hu⟩, hb⟩ => ⟨Or.inl ⟨u, he, back_lt a u ha hu, back_text a u hu⟩, hb⟩
  · refine (Parse_every l hlen w hG hE hR (fun h25 => read_some l h25)).mono fun e w' ⟨hT, hb⟩ => ⟨?_, hb⟩
    rcases hT with he | ⟨u, he, hu, ht⟩
    · exact Or.inr ⟨he, fun a ha ht => h ⟨a, ha, ht⟩⟩
    · exact absurd ⟨u, hu, ht⟩ h
theorem rk_text {u v : Nat} (hu : u < 18446744073709551616) (hv : v < 18446744073709551616) (h : pText u = pText v) : rk u = rk v := by
  rcases text_inj u v hu hv h with rfl | ⟨h1, h2⟩
  · rfl
  · rw [rk_nan h1, rk_nan h2]
set_option maxHeartbeats 2000000 in
set_option maxRecDepth 100000 in
theorem parses_walk (ao : Option Addr) (b o cap : Nat) (L : List ByteArray) (hao : L ≠ [] → ao = some ⟨b, o, none⟩) (hL : ∀ x ∈ L, x.size ≤ 9223372036854775807) (hlen : L.length ≤ 9223372036854775807) (w : World) (hK : KT w b o L w) :
    Calls Tryz.prog 4 #[.slice ao L.length cap] w fun e w' => e = .returned (.bool true) ∧ Below w.heap.size w w' := by
  have HA : Hid (Calls Tryz.prog 5 #[] w fun e w' => e = .returned (.bool true) ∧ KT w b o L w') := (awake_any w hK.1.glob (P10_of hK.2.1.p10)).mono fun e w' k => ⟨k.1, keepT k.2 hK⟩
  have HC : Hid (∀ l : List UInt8, l.length ≤ 9223372036854775807 → ∀ W, KT w b o L W → Calls Tryz.prog 11 #[.string ⟨l.toArray⟩] W fun e w' => DocP l e ∧ KT w b o L w') := fun l hl W h => (cparse_any l hl W h.1 h.2.1 h.2.2.1).mono fun e w' k => ⟨k.1, keepT k.2 h⟩
  have HD : Hid (∀ l : List UInt8, l.length ≤ 9223372036854775807 → ∀ W, KT w b o L W → Calls Tryz.prog 12 #[.string ⟨l.toArray⟩] W fun e w' => DocP l e ∧ KT w b o L w') := fun l hl W h => (dparse_any l hl W).mono fun e w' k => ⟨k.1, keepT k.2 h⟩
  clear hK
  go_enter Tryz.func4, Tryz.ntmps4
  go_wp2_with fail
  refine Calls.mono HA.out ?_
  rintro e w1 ⟨rfl, HK1⟩
  clear HA
  have HK1' : Hid _ := HK1
  clear HK1
  go_wp2_with fail
  go_loopw [13] (fun i W => ∃ k : Nat, k ≤ L.length ∧ i = .int .i64 (k : Int) ∧ Hid (KT w b o L W)) (fun i _ => L.length - (intOf i).toNat)
  case atStart => exact ⟨0, by omega, rfl, HK1'⟩
  case round =>
    clear HK1'
    obtain ⟨k, hk, rfl, HKr⟩ := hrel
    by_cases hlt : k < L.length
    · obtain rfl := hao (by intro k; rw [k] at hlt; simp at hlt)
      have hx : L[k].size ≤ 9223372036854775807 := hL _ (List.getElem_mem hlt)
      have q2 : wr.cell? ⟨b, o + k, none⟩ = some (.string L[k]) := HKr.out.2.2.2.2.1 k hlt
      have hlt' : (k : Int) < (L.length : Int) := by omega
      obtain ⟨l, hl⟩ : ∃ l : List UInt8, L[k] = ⟨l.toArray⟩ := ⟨L[k].data.toList, ByteArray.ext (by simp)⟩
      rw [hl] at q2 hx
      have hx' : l.length ≤ 9223372036854775807 := by simpa [ByteArray.size] using hx
      have HC1 : Hid _ := HC.out l hx'
      have HD1 : Hid _ := HD.out l hx'
      clear HC HD hx hl
      as_aux_lemma =>
        go_wp2_with fail
        refine (HC1.out _ HKr.out).mono ?_
        rintro e w2 ⟨hT, HK2⟩
        have HK2' : Hid _ := HK2
        clear HK2 HC1 HKr
        rcases hT with ⟨u, rfl, hu, htu⟩ | ⟨rfl, hno⟩
        · have HU : Hid _ := htu
          clear htu
          go_wp2_with fail
          refine (HD1.out _ HK2'.out).mono ?_
          rintro e w3 ⟨hT, HK3⟩
          have HK3' : Hid _ := HK3
          clear HK3 HD1 HK2'
          rcases hT with ⟨v, rfl, hv, htv⟩ | ⟨rfl, hno⟩
          · have HS1 : Hid _ := dsame_true u v hu hv (rk_text hu hv (HU.out.trans htv.symm))
            clear HU htv
            as_aux_lemma =>
              go_wp2_with fail
              refine (HS1.out _).mono ?_
              rintro e w4 ⟨rfl, rfl⟩
              go_wp2_with fail
              exact ⟨⟨k + 1, by omega, by go_num, HK3'⟩, by simp [intOf]; omega⟩
          · exact absurd HU.out (hno u hu)
        · have HNo : Hid _ := hno
          clear hno
          go_wp2_with fail
          refine (HD1.out _ HK2'.out).mono ?_
          rintro e w3 ⟨hT, HK3⟩
          have HK3' : Hid _ := HK3
          clear HK3 HD1 HK2'
          rcases hT with ⟨v, rfl, hv, htv⟩ | ⟨rfl, hno⟩
          · exact absurd htv (HNo.out v hv)
          · have HS1 : Hid _ := dsame_true 0 0 (by decide) (by decide) rfl
            clear HNo hno
            as_aux_lemma =>
              go_wp2_with fail
              refine (HS1.out _).mono ?_
              rintro e w4 ⟨rfl, rfl⟩
              go_wp2_with fail
              exact ⟨⟨k + 1, by omega, by go_num, HK3'⟩, by simp [intOf]; omega⟩
    · obtain rfl : k = L.length := by omega
      have hlt' : ¬ (L.length : Int) < (L.length : Int) := by omega
      have hB := HKr.out.2.2.2.2.2
      as_aux_lemma =>
        go_wp2_with fail
        go_ret
        exact ⟨rfl, hB⟩
end Go.Proofs.YtmejmohambhaaaaGreatDoor
namespace Go.Proofs.YtmejmohambhaaaaGreatDoor
open Go.ChangeShapes Go.WideShapes Go.ChangeAt Go.RowKit Go.Joins

theorem laidOutT : laidOutB Tryz.prog = true := by kernel_rfl
theorem cellsS : Tryz.prog.cellsOf 9 = 1 := by kernel_rfl
section
variable {H : Type} {enc : TypeId × Value → H}
set_option maxRecDepth 100000 in
/-- A row of texts, opened. -/
theorem open_texts {W : World} {base : Nat} {v : Value} {d : DataW H} {p : List MemPlace} (hv : Value.okWide Tryz.prog W .any base 30 v) (h : DataW.Trod enc Tryz.prog W 0 (fun _ => true) true 30 v d p) :
    ∃ (ao : Option Addr) (b o cap : Nat) (L : List ByteArray), v = .slice ao L.length cap ∧ (L ≠ [] → ao = some ⟨b, o, none⟩) ∧ (∀ x ∈ L, x.size ≤ 9223372036854775807) ∧ L.length ≤ 9223372036854775807 ∧ RowT W b o L := by
  have hM : maxLen = 9223372036854775807 := by unfold maxLen; decide
  obtain ⟨a0, len, cap, rfl⟩ := okWide_slice Tryz.underlying30 hv
  obtain ⟨fuel, hf⟩ := h
  rcases open_strings Tryz.underlying30 Tryz.underlying9 cellsS hf with ⟨hcs, hx⟩ | ⟨a, len', cap', ss, hcs, _, hl, hm, hz, hx, hcell, hsz⟩
  · simp [Value.cells] at hcs
    obtain ⟨rfl, rfl, rfl⟩ := hcs
    exact ⟨none, 0, 0, 0, [], rfl, fun k => absurd rfl k, (fun x hx => by cases hx), by decide, (fun i hi => by simp at hi)⟩
  · simp [Value.cells] at hcs
    obtain ⟨rfl, rfl, rfl⟩ := hcs
    simp only [if_true] at hz
    rw [hM] at hm hsz
    have hlen : (ss.take len).length = len := by simp; omega
    obtain ⟨b, off, spot⟩ := a
    refine ⟨some ⟨b, off, spot⟩, b, off, cap, ss.take len, by rw [hlen], ?_, ?_, ?_, ?_⟩
    · intro hne
      have h0 : 0 < ss.length := by
        rcases Nat.eq_zero_or_pos ss.length with k | k
        · exact absurd (by rw [List.length_eq_zero_iff.1 k]; simp) hne
        · exact k
      have hs : spot = none := by simpa [Addr.add] using World.cell?_spot (hcell 0 h0)
      rw [hs]
    · exact fun x hx => hsz x (List.mem_of_mem_take hx)
    · rw [hlen]; omega
    · intro i hi
      have hi2 : i < len := by rw [hlen] at hi; exact hi
      have hi' : i < ss.length := by omega
      have hs : spot = none := by simpa [Addr.add] using World.cell?_spot (hcell 0 (by omega))
      have hc := hcell i hi'
      subst hs
      rw [Addr.add_lit] at hc
      rw [hc]
      simp [List.getD, hi']
end
set_option maxRecDepth 100000 in
theorem realParses_lifted (os : Os) (started : os.Started) (H : Type) (enc : TypeId × Value → H) :
    ReturnsInHanded {} Tryz.checked os 4 .any (fun w args => (Rows.realParsesSpec.pre enc Tryz.prog Tryz.f4 [] false w args ∧ laidMetH Tryz.prog laids w) ∧ sizedMet enc Tryz.prog Tryz.f4 (OpenSpec.ofChange Rows.realParsesSpec) false w args)
      (Rows.realParsesSpec.post enc Tryz.prog Tryz.f4 false true false false) := by
  refine returns_and_shaped (C := Tryz.checked) (X := fun w _ => laidMetH Tryz.prog laids w) (fun _ _ _ hh h => h.of_heap hh) own started (by kernel_rfl) Tryz.func4
    (ChangeSpec.witness_shaped (enc := enc) (C := Tryz.checked) (os := os) (X := fun w _ => laidMetH Tryz.prog laids w) false (World.laidAll Tryz.prog os laids) #[.slice none 0 0] 8 (World.laidAll_os _ _ _) (start_shaped os _) (by kernel_rfl) (by kernel_rfl) (by kernel_rfl) (start_met os _)) ?_
  intro W base args ds gs before hval0 hW _ _ hL hSh _
  have hval : ∀ (j : Nat) t v, Tryz.f4.params[j]? = some t → args[j]? = some v → Value.okWide Tryz.prog W .any base t v := hval0
  have hW' := hW
  obtain ⟨p, q, hA0, hV, rfl, hfz, hnd⟩ := hW
  have hA : DataW.TrodAll enc Tryz.prog W 0 (fun _ => true) true Tryz.f4.params.toList args.toList ds p := hA0
  rw [Tryz.params4] at hA hval
  obtain ⟨v0, d0, rfl, rfl, h0⟩ := trodAll_one hA
  obtain ⟨rfl, rfl⟩ := trodVars_none hV
  clear hA0 hval0
  simp only [List.append_nil] at hW'
  have hlt : ∀ x ∈ p, x.block < W.heap.size := fun x hx => by simpa using hW'.lt x hx
  have hargs : ∀ (W' : World), Below W.heap.size W W' → DataW.TrodAll enc Tryz.prog W' 0 (fun b => decide (b < W.heap.size)) true [30] [v0] [d0] p := fun W' hn =>
    trodAll_mk1 (Below.trod laidOutT (by kernel_rfl) (of_decide_eq_true (by kernel_rfl)) h0 hn (fun x hx => hlt x hx))
  obtain ⟨ao, b, o, cap, L, rfl, e1, e2, e3, e4⟩ := open_texts (hval 0 30 v0 rfl rfl) h0
  obtain ⟨hGl, _⟩ := glob_of_laid hL
  have hP := ten_of_laid hL
  have hBk := blks_of hSh
  have hK : KT W b o L W := ⟨⟨hGl, maxLen_cell hSh⟩, ⟨hGl, hP, cheat_of_laid hL, info_of_laid hL, hBk.eq⟩, errs_of_laid hL, hBk, e4, Below.refl _ _⟩
  refine (parses_walk ao b o cap L e1 e2 e3 W hK).mono fun e W' ⟨he, hb⟩ => ?_
  subst he
  exact ⟨_, rfl, _, _, _, [], _, [], hW', trodAll_mk1 (shut_bool Tryz.underlying4 _), hargs W' hb, rfl, hb.frame _, fun h => by cases h⟩
theorem realParses_holds : Rows.RealParsesSaid :=
  OpenClaim.holds_of_wide 4 Tryz.f4 rfl rfl rfl rfl rfl rfl rfl ⟨rfl, rfl, rfl, rfl, rfl⟩ rfl rfl rfl rfl rfl (by kernel_rfl) Tryz.func4 (by kernel_rfl)
    (of_decide_eq_true (by kernel_rfl)) (by unfold Func.isWrapper; first | (rw [if_pos (by decide +kernel)]; kernel_rfl) | (rw [if_neg (by decide +kernel)]; exact ⟨rfl, rfl⟩))
    (fun os started H enc _ => realParses_lifted os started H enc)
theorem realParses_card : Rows.RealParsesCardSaid :=
  Claim7.holds_tied_plain_at .later [] [.data, .data, .widerDeep, .widerDeep, .data, .data, .data, .data, .data, .sentinel, .sentinel, .pinned, .pinned] true Rows.realParsesCard.stood.harness true
    realParses_holds (fun _ h => by cases h) (by kernel_rfl) (fun _ h => by cases h) realParses_row_tie rfl ⟨rfl, rfl⟩ (by kernel_rfl) rfl
    (fun f fn hf hfn => by
      obtain rfl : f = 4 := Option.some.inj ((show Tryz.prog.funcNamed Rows.realParsesRow.func = some 4 by kernel_rfl).symm.trans hf) |>.symm
      obtain rfl : fn = Tryz.f4 := (Option.some.inj (Tryz.func4.symm.trans hfn)).symm
      exact ⟨by kernel_rfl, fun j t ht => by
        rw [Tryz.params4] at ht
        have hm : t ∈ [30] := by simpa using Array.mem_of_getElem? ht
        have hall : ([30].all fun u => !Tryz.prog.wantsStandIn u) = true := by kernel_rfl
        exact (show Tryz.prog.wantsStandIn t = false by simpa using List.all_eq_true.1 hall t hm)⟩)
    (by kernel_rfl)
end Go.Proofs.YtmejmohambhaaaaGreatDoor
