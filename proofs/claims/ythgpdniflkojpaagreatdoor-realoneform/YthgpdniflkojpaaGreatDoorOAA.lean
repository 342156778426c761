/- atof64 AT EVERY TEXT: it answers something. Own work of the verifier. -/
import Derived.Test.YthgpdniflkojpaaGreatDoorOR0
import Derived.Test.YthgpdniflkojpaaGreatDoorOFA
import Derived.Test.YthgpdniflkojpaaGreatDoorOH1
import Derived.Test.YthgpdniflkojpaaGreatDoorDC7
import Derived.Test.YthgpdniflkojpaaGreatDoorDC8
namespace Go.Proofs.YthgpdniflkojpaaGreatDoor
open Go.RowKit Go.Sort Soft

/-- No error, or one of the two. -/
def ErrV (v : Value) : Prop := v = .nilIface ∨ v = .iface 60 (.int .i64 1) ∨ v = .iface 60 (.int .i64 2)
/-- What atof64 answers. -/
def TellsA (e : Ending) : Prop := ∃ (f n : Nat) (v : Value), e = .returned (.tuple #[.float .f64 f, .int .i64 (n : Int), v]) ∧ f < 18446744073709551616 ∧ ErrV v
theorem parse_some (n : Bool) (d : Nat) (p : Int) (hd : d < 18446744073709551616) (hd1 : 1 ≤ d) (hp0 : -345 ≤ p) (hp1 : p ≤ 310) (w : World) (hg : 11 < w.heap.size) (hT : Pow w) :
    Calls Tryz.prog 92 #[.int .u64 (d : Int), .int .i64 p, .int .u64 ((sgnN n : Nat) : Int)] w fun r w' => TellsE r ∧ Below w.heap.size w w' := by
  obtain ⟨b1, b2, b3⟩ := len_bounds d hd (by omega)
  have b64 : Lib.bitLen d ≤ 64 := by
    rcases Nat.lt_or_ge (Lib.bitLen d) 65 with h | h
    · omega
    · have : 2 ^ 64 ≤ 2 ^ (Lib.bitLen d - 1) := Nat.pow_le_pow_right (by decide) (by omega)
      omega
  have hxx : d * 2 ^ (64 - Lib.bitLen d) < 18446744073709551616 := by
    have := Nat.mul_lt_mul_of_pos_right b3 (show 0 < 2 ^ (64 - Lib.bitLen d) from Nat.pow_pos (by decide))
    rw [← Nat.pow_add, show Lib.bitLen d + (64 - Lib.bitLen d) = 64 from by omega] at this
    exact this
  exact parse64_some n d _ p _ hd hd1 rfl b1 b64 hp0 hp1 rfl hxx w hg hT
theorem CheatB.mono {g g' : Nat} {w : World} (h : CheatB g w) (hg : g ≤ g') : CheatB g' w := by
  obtain ⟨h0, b, o, c, h1, h2, h3⟩ := h
  exact ⟨by omega, b, o, c, by omega, h2, h3⟩
theorem InfoB.mono {g g' : Nat} {w : World} (h : InfoB g w) (hg : g ≤ g') : InfoB g' w := by
  obtain ⟨b, o, c, h1, h2, h3⟩ := h.pow
  exact ⟨by have := h.gi; omega, by have := h.gp; omega, h.m52, h.e11, h.bias, b, o, c, by omega, h2, h3⟩
theorem zeros_dec : Tryz.zeroCells104 = Array.replicate 800 (.int .u8 0) ++ #[.int .i64 0, .int .i64 0, .bool false, .bool false] := by kernel_rfl
/-- A decimal as it is made. -/
theorem dec_new (W : World) : DecAt W.heap.size (fun _ => 0) 0 0 false false (W.alloc (.cells Tryz.zeroCells104 104)) := by
  have hc : ∀ i, (W.alloc (.cells Tryz.zeroCells104 104)).cell? ⟨W.heap.size, i, none⟩ = (Tryz.zeroCells104)[i]? := fun i => by
    generalize Tryz.zeroCells104 = z
    simp [go_sem]
  have hr : ∀ (a : Array Value) (i : Nat), a.size = 800 → ∀ b : Array Value, (a ++ b)[800 + i]? = b[i]? := fun a i ha b => by
    rw [Array.getElem?_append_right (by omega), ha, Nat.add_sub_cancel_left]
  have hs : (Array.replicate 800 (Value.int .u8 0)).size = 800 := Array.size_replicate
  refine ⟨fun i hi => ?_, ?_, ?_, ?_, ?_, fun o => ?_⟩
  · rw [hc, zeros_dec, Array.getElem?_append_left (by rw [hs]; exact hi), Array.getElem?_replicate, if_pos hi]; rfl
  · rw [hc, zeros_dec]; exact hr _ 0 hs _
  · rw [hc, zeros_dec]; exact hr _ 1 hs _
  · rw [hc, zeros_dec]; exact hr _ 2 hs _
  · rw [hc, zeros_dec]; exact hr _ 3 hs _
  · generalize Tryz.zeroCells104 = z
    simp [go_sem]
/-- What is read of the library's variables besides. -/
structure GlobR (w : World) : Prop where
  glob : Glob w
  p10 : P10F w
  ch : CheatB w.heap.size w
  inf : InfoB w.heap.size w
  eq : ∀ q, (binOp .eql 112 (.pointer (some ⟨5, 0, none⟩)) (.pointer (some ⟨4, 0, none⟩))).run Tryz.prog (w.drewN q) = .ok (.bool false) (w.drewN q)
set_option maxHeartbeats 4000000 in
set_option maxRecDepth 100000 in
theorem atof_some (l : List UInt8) (hl : l.length ≤ 25) (w : World) (hG : GlobR w) (hR : ∀ W, Calls Tryz.prog 81 #[.string ⟨l.toArray⟩] W fun e w' => TellsR l e ∧ w' = W) :
    Calls Tryz.prog 53 #[.string ⟨l.toArray⟩] w fun e w' => TellsA e ∧ Below w.heap.size w w' := by
  have HS : Hid _ := fun W => special_any l hl W
  have HR : Hid _ := hR
  have HG : Hid _ := hG
  have ho := hG.glob.opt
  clear hR hG
  go_enter Tryz.func53, Tryz.ntmps53
  go_wp2_with fail
  refine (HS.out _).mono ?_
  rintro e w1 ⟨⟨f, k, ok, rfl, hf, hk⟩, rfl⟩
  clear HS
  cases ok
  · go_wp2_with fail
    refine (HR.out _).mono ?_
    rintro e w1 ⟨⟨M, x, ng, tr, hx, i, ok, rfl, hM, hM2, hx0, hx1, hi⟩, rfl⟩
    clear HR hk hf
    cases ok
    · as_aux_lemma =>
        go_wp2_with fail
        go_ret3
        exact ⟨⟨0, i, _, rfl, by decide, Or.inr (Or.inr rfl)⟩, Below.refl _ _⟩
    · have hi' : (i : Int) ≤ (l.length : Int) := by omega
      have hu : (l.length : Int) ≤ 25 := by omega
      cases hx
      · have hM2' := hM2 rfl
        have hsg : IntKind.u64.wrap (((b2n ng : Nat) : Int) * 9223372036854775808) = ((sgnN ng : Nat) : Int) := by cases ng <;> decide
        have hor : bits .or .u64 ((sgnN ng : Nat) : Int) 0 = ((sgnN ng : Nat) : Int) := by cases ng <;> decide +kernel
        have hor2 : bits .or .u64 ((sgnN ng : Nat) : Int) 9218868437227405312 = ((sgnN ng + 9218868437227405312 : Nat) : Int) := by cases ng <;> decide +kernel
        have hsn : sgnN ng + 9218868437227405312 < 18446744073709551616 := by cases ng <;> decide
        by_cases hM0 : M = 0
        · subst hM0
          as_aux_lemma =>
            go_wp2_with (first
              | (go_at_call 89; with_reducible refine (bool2_u64 _ _).mono ?_; rintro e w1 ⟨rfl, rfl⟩)
              | simp only [f64from]
              | fail)
            go_ret3
            exact ⟨⟨sgnN ng, i, _, rfl, by omega, Or.inl rfl⟩, Below.refl _ _⟩
        · have hMz : ((M : Int) == 0) = false := by rw [beq_eq_false_iff_ne]; omega
          by_cases h310 : 310 < x
          · as_aux_lemma =>
              go_wp2_with (first
                | (go_at_call 89; with_reducible refine (bool2_u64 _ _).mono ?_; rintro e w1 ⟨rfl, rfl⟩)
                | simp only [f64from]
                | fail)
              go_ret3
              exact ⟨⟨_, i, _, rfl, hsn, Or.inr (Or.inl rfl)⟩, Below.refl _ _⟩
          · by_cases h345 : x < -345
            · as_aux_lemma =>
                go_wp2_with (first
                  | (go_at_call 89; with_reducible refine (bool2_u64 _ _).mono ?_; rintro e w1 ⟨rfl, rfl⟩)
                  | simp only [f64from]
                  | fail)
                go_ret3
                exact ⟨⟨sgnN ng, i, _, rfl, by omega, Or.inl rfl⟩, Below.refl _ _⟩
            · have HPs : Hid (∀ W, Below w1.heap.size w1 W → Calls Tryz.prog 92 #[.int .u64 (M : Int), .int .i64 x, .int .u64 ((sgnN ng : Nat) : Int)] W fun r w' => TellsE r ∧ Below W.heap.size W w') := fun W hW => parse_some ng M x hM (by omega) (by omega) (by omega) W (by have := hW.size; have := lt_of_cell (HG.out.glob.pow 0 (by decide)).1; omega) (HG.out.glob.pow.below hW)
              cases tr
              · obtain ⟨F, hF, hX⟩ := exact_some ng M x hM (by omega) (by omega) (by omega)
                have HX : Hid _ := hX
                clear hX
                go_wp2_with (first
                  | (go_at_call 89; with_reducible refine (bool2_u64 _ _).mono ?_; rintro e w2 ⟨rfl, rfl⟩)
                  | fail)
                refine (HX.out _ HG.out.glob HG.out.p10).mono ?_
                rintro e w2 ⟨⟨f2, ok2, rfl, hok2⟩, rfl⟩
                have HOK : Hid _ := hok2
                clear hok2
                cases ok2
                · as_aux_lemma =>
                    go_wp2_with fail
                    refine (HPs.out _ (Below.refl _ _)).mono ?_
                    rintro e w3 ⟨⟨f3, v3, rfl, hf3, hv3⟩, hb3⟩
                    have HV : Hid (ErrV v3) := hv3.elim Or.inl (fun h => Or.inr (Or.inl h))
                    clear hv3
                    go_wp2_with fail
                    go_ret3
                    exact ⟨⟨f3, i, v3, rfl, hf3, HV.out⟩, hb3⟩
                · as_aux_lemma =>
                    go_wp2_with fail
                    go_ret3
                    exact ⟨⟨f2, i, _, rfl, by rw [HOK.out (by first | rfl | trivial)]; exact hF, Or.inl rfl⟩, Below.refl _ _⟩
              · have HPt : Hid (∀ W, Below w1.heap.size w1 W → Calls Tryz.prog 92 #[.int .u64 ((M : Int) + 1), .int .i64 x, .int .u64 ((sgnN ng : Nat) : Int)] W fun r w' => TellsE r ∧ Below W.heap.size W w') := fun W hW => parse_some ng (M + 1) x (by omega) (by omega) (by omega) (by omega) W (by have := hW.size; have := lt_of_cell (HG.out.glob.pow 0 (by decide)).1; omega) (HG.out.glob.pow.below hW)
                go_wp2_with (first
                  | (go_at_call 89; with_reducible refine (bool2_u64 _ _).mono ?_; rintro e w2 ⟨rfl, rfl⟩)
                  | fail)
                refine (HPs.out _ (Below.refl _ _)).mono ?_
                rintro e w3 ⟨⟨f3, v3, rfl, hf3, hv3⟩, hb3⟩
                have HV : Hid (ErrV v3) := hv3.elim Or.inl (fun h => Or.inr (Or.inl h))
                clear hv3
                go_wp2_with fail
                refine (HPt.out _ hb3).mono ?_
                rintro e w4 ⟨⟨f4, v4, rfl, hf4, hv4⟩, hb4⟩
                have HB4 : Hid (Below w2.heap.size w2 w4) := hb3.trans (hb4.mono hb3.size)
                clear hv4 hb3 hb4 HPs HPt
                have HSet : Hid (Calls Tryz.prog 87 #[.pointer (some ⟨w4.heap.size, 0, none⟩), .string ((ByteArray.mk l.toArray).extract 0 i)] (w4.alloc (.cells Tryz.zeroCells104 104)) fun e w' => SetTo w4.heap.size (w4.alloc (.cells Tryz.zeroCells104 104)) e w') := by
                  rw [take_bytes]
                  exact set_some (l.take i) (by rw [List.length_take]; omega) _ _ _ _ _ (dec_new w4)
                have HBa : Hid (Below w4.heap.size w4 (w4.alloc (.cells Tryz.zeroCells104 104))) := bel1 w4 _
                go_wp2_with fail
                · as_aux_lemma =>
                    go_ret3
                    exact ⟨⟨f3, i, v3, rfl, hf3, HV.out⟩, HB4.out⟩
                · refine Calls.mono HSet.out ?_
                  rintro e w5 ⟨b, n, dp, rfl, hd0, hd1, hD⟩
                  obtain ⟨D, ng', tr', hDec, hGd, hb5⟩ := hD
                  have HB5 : Hid (Below w4.heap.size w4 w5) := HBa.out.trans hb5
                  have HB6 : Hid (Below w2.heap.size w2 w5) := HB4.out.trans (HB5.out.mono HB4.out.size)
                  have HBits : Hid (Calls Tryz.prog 88 #[.pointer (some ⟨w4.heap.size, 0, none⟩), .pointer (some ⟨5, 0, none⟩)] w5 fun e w' => TellsW e ∧ Below w4.heap.size w5 w') :=
                    bits_some w4.heap.size D n dp ng' tr' hGd w5 hDec ((HG.out.ch.below HB6.out).mono HB4.out.size) ((HG.out.inf.below HB6.out).mono HB4.out.size)
                  clear hDec hGd hb5 HSet HBa hd0 hd1
                  cases b
                  · as_aux_lemma =>
                      go_wp2_with fail
                      go_ret3
                      exact ⟨⟨0, i, _, rfl, by decide, Or.inr (Or.inr rfl)⟩, HB6.out⟩
                  · go_wp2_with fail
                    refine Calls.mono HBits.out ?_
                    rintro e w7 ⟨⟨v7, o7, rfl, hv7⟩, hb7⟩
                    have HB7 : Hid (Below w2.heap.size w2 w7) := HB6.out.trans (hb7.mono HB4.out.size)
                    clear hb7 HBits
                    cases o7
                    · as_aux_lemma =>
                        go_wp2_with (first | simp only [f64from] | fail)
                        go_ret3
                        exact ⟨⟨v7, i, _, rfl, hv7, Or.inl rfl⟩, HB7.out⟩
                    · as_aux_lemma =>
                        go_wp2_with (first | simp only [f64from] | fail)
                        go_ret3
                        exact ⟨⟨v7, i, _, rfl, hv7, Or.inr (Or.inl rfl)⟩, HB7.out⟩
      · have i1 := HG.out.inf.m52
        have i2 := HG.out.inf.e11
        have i3 := HG.out.inf.bias
        have HH : Hid (∀ s, Calls Tryz.prog 82 #[.string s, .pointer (some ⟨5, 0, none⟩), .int .u64 (M : Int), .int .i64 x, .bool ng, .bool tr] w1 fun r w' => TellsE r ∧ DrewOf w1 w') := fun s => hex_some s M x ng tr hM w1 i1 i2 i3 HG.out.eq
        clear i1 i2 i3
        as_aux_lemma =>
          go_wp2_with fail
          refine (HH.out _).mono ?_
          rintro e w3 ⟨⟨f3, v3, rfl, hf3, hv3⟩, q, rfl⟩
          have HV : Hid (ErrV v3) := hv3.elim Or.inl (fun h => Or.inr (Or.inl h))
          clear hv3
          go_wp2_with fail
          go_ret3
          exact ⟨⟨f3, i, v3, rfl, hf3, HV.out⟩, Below.drewN' (Below.refl _ _) _⟩
  · as_aux_lemma =>
      go_wp2_with fail
      go_ret3
      exact ⟨⟨f, k, _, rfl, hf, Or.inl rfl⟩, Below.refl _ _⟩
end Go.Proofs.YthgpdniflkojpaaGreatDoor
/- ParseFloat AND Parse AT EVERY TEXT. Own work of the verifier. -/
namespace Go.Proofs.YthgpdniflkojpaaGreatDoor
open Go.RowKit Go.Sort Soft

/-- A float, and an error or none. -/
def TellsP (e : Ending) : Prop := ∃ (f : Nat) (v : Value), e = .returned (.tuple #[.float .f64 f, v]) ∧ f < 18446744073709551616 ∧ ErrV v
/-- A float, and some error or none. -/
def TellsQ (e : Ending) : Prop := ∃ (f : Nat) (v : Value), e = .returned (.tuple #[.float .f64 f, v]) ∧ f < 18446744073709551616 ∧ (v = .nilIface ∨ ∃ t x, v = .iface t x)
set_option maxHeartbeats 1000000 in
set_option maxRecDepth 100000 in
theorem prefix_o (T : List UInt8) (w : World) (HA : Hid (Calls Tryz.prog 53 #[.string ⟨T.toArray⟩] w fun e w' => TellsA e ∧ Below w.heap.size w w')) :
    Calls Tryz.prog 38 #[.string ⟨T.toArray⟩, .int .i64 64] w fun e w' => TellsA e ∧ Below w.heap.size w w' := by
  go_enter Tryz.func38, Tryz.ntmps38
  go_wp2_with fail
  refine Calls.mono HA.out ?_
  rintro e w1 ⟨⟨f, n, v, rfl, hf, hv⟩, hb1⟩
  have HV : Hid _ := hv
  clear hv
  go_wp2
  go_ret3
  exact ⟨⟨f, n, v, rfl, hf, HV.out⟩, hb1⟩
set_option maxHeartbeats 1000000 in
set_option maxRecDepth 100000 in
theorem parse_o (T : List UInt8) (_hT : T.length ≤ 25) (w : World) (HA : Hid (Calls Tryz.prog 53 #[.string ⟨T.toArray⟩] w fun e w' => TellsA e ∧ Below w.heap.size w w')) :
    Calls Tryz.prog 27 #[.string ⟨T.toArray⟩, .int .i64 64] w fun e w' => TellsP e ∧ Below w.heap.size w w' := by
  go_enter Tryz.func27, Tryz.ntmps27
  go_wp2_with fail
  refine (prefix_o T w HA).mono ?_
  rintro e w1 ⟨⟨f, n, v, rfl, hf, hv⟩, hb1⟩
  have HV : Hid _ := hv
  clear hv
  by_cases hn : n = T.length
  · have hn' : ((n : Int) != (T.length : Int)) = false := by rw [bne_eq_false_iff_eq]; omega
    clear hn
    as_aux_lemma =>
      go_wp2_with fail
      go_ret2
      exact ⟨⟨f, v, rfl, hf, HV.out⟩, hb1⟩
  · have hn' : ((n : Int) != (T.length : Int)) = true := by rw [bne_iff_ne]; omega
    clear hn
    as_aux_lemma =>
      go_wp2_with fail
      go_ret2
      exact ⟨⟨0, _, rfl, by decide, Or.inr (Or.inr rfl)⟩, hb1⟩
/-- The two errors of the library. -/
structure Errs (w : World) : Prop where
  syn : ∃ ev, w.cell? ⟨1, 0, none⟩ = some ev ∧ (ev = .nilIface ∨ ∃ te pe, ev = .iface te pe)
  rng : ∃ ev, w.cell? ⟨2, 0, none⟩ = some ev ∧ (ev = .nilIface ∨ ∃ te pe, ev = .iface te pe)
theorem Errs.below {w w' : World} (h : Errs w) (hb : Below w.heap.size w w') : Errs w' := by
  obtain ⟨e1, h1, k1⟩ := h.syn
  obtain ⟨e2, h2, k2⟩ := h.rng
  exact ⟨⟨e1, by rw [(bcell hb).1 _ _ (lt_of_cell h1), h1], k1⟩, ⟨e2, by rw [(bcell hb).1 _ _ (lt_of_cell h2), h2], k2⟩⟩
set_option maxHeartbeats 1000000 in
set_option maxRecDepth 100000 in
theorem Parse_o (T : List UInt8) (hT : T.length ≤ 25) (w : World) (hE : Errs w) (HA : Hid (Calls Tryz.prog 53 #[.string ⟨T.toArray⟩] w fun e w' => TellsA e ∧ Below w.heap.size w w')) :
    Calls Tryz.prog 14 #[.string ⟨T.toArray⟩, .int .i64 64] w fun e w' => TellsQ e ∧ Below w.heap.size w w' := by
  have hlim : (ByteArray.mk T.toArray).size ≤ 281474976710656 := by show T.toArray.size ≤ _; simp; omega
  go_enter Tryz.func14, Tryz.ntmps14
  go_wp2_with fail
  refine (parse_o T hT w HA).mono ?_
  rintro e w1 ⟨⟨f, v, rfl, hf, hv⟩, hb1⟩
  have hE1 := hE.below hb1
  obtain ⟨e1, s1, k1⟩ := hE1.syn
  obtain ⟨e2, s2, k2⟩ := hE1.rng
  have HS : Hid _ := fun fn base bits => Tryz.strconv_toError_syntax fn ⟨T.toArray⟩ base bits e1 w1 hlim s1 k1
  have HRr : Hid _ := fun fn base bits => Tryz.strconv_toError_range fn ⟨T.toArray⟩ base bits e2 w1 hlim s2 k2
  clear hE hE1 HA s1 s2 k1 k2
  rcases hv with rfl | rfl | rfl
  · as_aux_lemma =>
      go_wp2_with fail
      go_ret2
      exact ⟨⟨f, _, rfl, hf, Or.inl rfl⟩, hb1⟩
  · as_aux_lemma =>
      go_wp2_with fail
      refine (HRr.out _ _ _).mono ?_
      rintro e w2 ⟨N, rfl, hN, hc, hb2⟩
      go_wp2_with fail
      go_ret2
      exact ⟨⟨f, _, rfl, hf, Or.inr ⟨_, _, rfl⟩⟩, hb1.trans (hb2.mono hb1.size)⟩
  · as_aux_lemma =>
      go_wp2_with fail
      refine (HS.out _ _ _).mono ?_
      rintro e w2 ⟨N, rfl, hN, hc, hb2⟩
      go_wp2_with fail
      go_ret2
      exact ⟨⟨f, _, rfl, hf, Or.inr ⟨_, _, rfl⟩⟩, hb1.trans (hb2.mono hb1.size)⟩
/-- What the program's Parse answers: no float's text, or the float whose text it is. -/
def TellsT (l : List UInt8) (e : Ending) : Prop := e = .returned (.tuple #[.float .f64 0, .int .i64 5]) ∨ ∃ u, e = .returned (.tuple #[.float .f64 u, .int .i64 0]) ∧ u < 18446744073709551616 ∧ pText u = l
set_option maxHeartbeats 1000000 in
set_option maxRecDepth 100000 in
theorem Parse_every (l : List UInt8) (hlen : l.length ≤ 9223372036854775807) (w : World) (hG : Glob2 w) (hE : Errs w) (hR : GlobR w) (hrd : l.length ≤ 25 → ∀ W, Calls Tryz.prog 81 #[.string ⟨l.toArray⟩] W fun e w' => TellsR l e ∧ w' = W) :
    Calls Tryz.prog 6 #[.string ⟨l.toArray⟩] w fun e w' => TellsT l e ∧ Below w.heap.size w w' := by
  by_cases h25 : l.length ≤ 25
  · have HA : Hid _ := Parse_o l h25 w hE (atof_some l h25 w hR (hrd h25))
    have hl : (l.length : Int) ≤ 25 := by omega
    have HG : Hid _ := hG
    clear hG hE hR hrd
    go_enter Tryz.func6, Tryz.ntmps6
    go_wp2_with fail
    refine Calls.mono HA.out ?_
    rintro e w1 ⟨⟨u, v, rfl, hu, hv⟩, hb1⟩
    rcases hv with rfl | ⟨t, x, rfl⟩
    · go_wp2_with fail
      refine (print_all u hu w1 (HG.out.below hb1)).mono ?_
      rintro e w2 ⟨rfl, hb2⟩
      have HB : Hid _ := hb1.trans (hb2.mono hb1.size)
      clear hb1 hb2
      by_cases he : pText u = l
      · rw [he]
        have HE : Hid _ := he
        clear he
        as_aux_lemma =>
          go_wp2_with fail
          go_ret2
          exact ⟨Or.inr ⟨u, rfl, hu, HE.out⟩, HB.out⟩
      · have he' : (pText u == l) = false := by simpa using he
        generalize pText u = TU at *
        as_aux_lemma =>
          go_wp2_with fail
          go_ret2
          exact ⟨Or.inl rfl, HB.out⟩
    · as_aux_lemma =>
        go_wp2_with fail
        go_ret2
        exact ⟨Or.inl rfl, hb1⟩
  · have hl : ¬ (l.length : Int) ≤ 25 := by omega
    have hl2 : (25 : Int) < (l.length : Int) := by omega
    as_aux_lemma =>
      go_enter Tryz.func6, Tryz.ntmps6
      go_wp2_with fail
      go_ret2
      exact ⟨Or.inl rfl, Below.refl _ _⟩
theorem GlobR.below {w w' : World} (h : GlobR w) (hb : Below w.heap.size w w') (heq : ∀ q, (binOp .eql 112 (.pointer (some ⟨5, 0, none⟩)) (.pointer (some ⟨4, 0, none⟩))).run Tryz.prog (w'.drewN q) = .ok (.bool false) (w'.drewN q)) : GlobR w' :=
  ⟨h.glob.below hb, h.p10.below hb, (h.ch.below hb).mono hb.size, (h.inf.below hb).mono hb.size, heq⟩
end Go.Proofs.YthgpdniflkojpaaGreatDoor
