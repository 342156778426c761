/- atof64 AT EVERY TEXT: it answers something. Own work of the verifier. -/
import Derived.Test.YtmejmohambhaaaaGreatDoorOR0
import Derived.Test.YtmejmohambhaaaaGreatDoorPB8
import Derived.Test.YtmejmohambhaaaaGreatDoorDC7
import Derived.Test.YtmejmohambhaaaaGreatDoorDC8
import Derived.Test.YtmejmohambhaaaaGreatDoorPB6
namespace Go.Proofs.YtmejmohambhaaaaGreatDoor
open Go.RowKit Go.Sort Soft

/-- No error, or one of the two. -/
def ErrV (v : Value) : Prop := v = .nilIface ∨ v = .iface 66 (.int .i64 1) ∨ v = .iface 66 (.int .i64 2)
/-- What atof64 answers. -/
def TellsA (e : Ending) : Prop := ∃ (f n : Nat) (v : Value), e = .returned (.tuple #[.float .f64 f, .int .i64 (n : Int), v]) ∧ f < 18446744073709551616 ∧ ErrV v
theorem parse_some (n : Bool) (d : Nat) (p : Int) (hd : d < 18446744073709551616) (hd1 : 1 ≤ d) (hp0 : -345 ≤ p) (hp1 : p ≤ 310) (w : World) (hg : 8 < w.heap.size) (hT : Pow w) :
    Calls Tryz.prog 122 #[.int .u64 (d : Int), .int .i64 p, .int .u64 ((sgnN n : Nat) : Int)] w fun r w' => TellsE r ∧ Below w.heap.size w w' := by
  obtain ⟨b1, b2, b3⟩ := len_bounds d hd (by omega)
  have b64 : Lib.bitLen d ≤ 64 := by
    rcases Nat.lt_or_ge (Lib.bitLen d) 65 with h | h
    · omega
    · have : 2 ^ 64 ≤ 2 ^ (Lib.bitLen d - 1) := Nat.pow_le_pow_right (by decide) (by omega)
      omega
  have hxx : d * 2 ^ (64 - Lib.bitLen d) < 18446744073709551616 := by
    have := Nat.mul_lt_mul_of_pos_right b3 (show 0 < 2 ^ (64 - Lib.bitLen d) from Nat.pow_pos (by decide))
    rw [← Nat.pow_add, show Lib.bitLen d + (64 - Lib.bitLen d) = 64 from by omega] at this
    exact this
  exact parse64_some n d _ p _ hd hd1 rfl b1 b64 hp0 hp1 rfl hxx w hg hT
theorem CheatB.mono {g g' : Nat} {w : World} (h : CheatB g w) (hg : g ≤ g') : CheatB g' w := by
  obtain ⟨h0, b, o, c, h1, h2, h3⟩ := h
  exact ⟨by omega, b, o, c, by omega, h2, h3⟩
theorem InfoB.mono {g g' : Nat} {w : World} (h : InfoB g w) (hg : g ≤ g') : InfoB g' w := by
  obtain ⟨b, o, c, h1, h2, h3⟩ := h.pow
  exact ⟨by have := h.gi; omega, by have := h.gp; omega, h.m52, h.e11, h.bias, b, o, c, by omega, h2, h3⟩
theorem zeros_dec : Tryz.zeroCells90 = Array.replicate 800 (.int .u8 0) ++ #[.int .i64 0, .int .i64 0, .bool false, .bool false] := by kernel_rfl
/-- A decimal as it is made. -/
theorem dec_new (W : World) : DecAt W.heap.size (fun _ => 0) 0 0 false false (W.alloc (.cells Tryz.zeroCells90 90)) := by
  have hc : ∀ i, (W.alloc (.cells Tryz.zeroCells90 90)).cell? ⟨W.heap.size, i, none⟩ = (Tryz.zeroCells90)[i]? := fun i => by
    generalize Tryz.zeroCells90 = z
    simp [go_sem]
  have hr : ∀ (a : Array Value) (i : Nat), a.size = 800 → ∀ b : Array Value, (a ++ b)[800 + i]? = b[i]? := fun a i ha b => by
    rw [Array.getElem?_append_right (by omega), ha, Nat.add_sub_cancel_left]
  have hs : (Array.replicate 800 (Value.int .u8 0)).size = 800 := Array.size_replicate
  refine ⟨fun i hi => ?_, ?_, ?_, ?_, ?_, fun o => ?_⟩
  · rw [hc, zeros_dec, Array.getElem?_append_left (by rw [hs]; exact hi), Array.getElem?_replicate, if_pos hi]; rfl
  · rw [hc, zeros_dec]; exact hr _ 0 hs _
  · rw [hc, zeros_dec]; exact hr _ 1 hs _
  · rw [hc, zeros_dec]; exact hr _ 2 hs _
  · rw [hc, zeros_dec]; exact hr _ 3 hs _
  · generalize Tryz.zeroCells90 = z
    simp [go_sem]
/-- What is read of the library's variables besides. -/
structure GlobR (w : World) : Prop where
  glob : Glob w
  p10 : P10F w
  ch : CheatB w.heap.size w
  inf : InfoB w.heap.size w
  eq : ∀ q, (binOp .eql 136 (.pointer (some ⟨7, 0, none⟩)) (.pointer (some ⟨6, 0, none⟩))).run Tryz.prog (w.drewN q) = .ok (.bool false) (w.drewN q)
set_option maxHeartbeats 4000000 in
set_option maxRecDepth 100000 in
theorem atof_some (l : List UInt8) (hl : l.length ≤ 25) (w : World) (hG : GlobR w) (hR : ∀ W, Calls Tryz.prog 111 #[.string ⟨l.toArray⟩] W fun e w' => TellsR l e ∧ w' = W) :
    Calls Tryz.prog 78 #[.string ⟨l.toArray⟩] w fun e w' => TellsA e ∧ Below w.heap.size w w' := by
  have HS : Hid _ := fun W => special_any l hl W
  have HR : Hid _ := hR
  have HG : Hid _ := hG
  have ho := hG.glob.opt
  clear hR hG
  go_enter Tryz.func78, Tryz.ntmps78
  go_wp2_with fail
  refine (HS.out _).mono ?_
  rintro e w1 ⟨⟨f, k, ok, rfl, hf, hk⟩, rfl⟩
  clear HS
  cases ok
  · go_wp2_with fail
    refine (HR.out _).mono ?_
    rintro e w1 ⟨⟨M, x, ng, tr, hx, i, ok, rfl, hM, hM2, hx0, hx1, hi⟩, rfl⟩
    clear HR hk hf
    cases ok
    · as_aux_lemma =>
        go_wp2_with fail
        go_ret3
        exact ⟨⟨0, i, _, rfl, by decide, Or.inr (Or.inr rfl)⟩, Below.refl _ _⟩
    · have hi' : (i : Int) ≤ (l.length : Int) := by omega
      have hu : (l.length : Int) ≤ 25 := by omega
      cases hx
      · have hM2' := hM2 rfl
        have hsg : IntKind.u64.wrap (((b2n ng : Nat) : Int) * 9223372036854775808) = ((sgnN ng : Nat) : Int) := by cases ng <;> decide
        have hor : bits .or .u64 ((sgnN ng : Nat) : Int) 0 = ((sgnN ng : Nat) : Int) := by cases ng <;> decide +kernel
        have hor2 : bits .or .u64 ((sgnN ng : Nat) : Int) 9218868437227405312 = ((sgnN ng + 9218868437227405312 : Nat) : Int) := by cases ng <;> decide +kernel
        have hsn : sgnN ng + 9218868437227405312 < 18446744073709551616 := by cases ng <;> decide
        by_cases hM0 : M = 0
        · subst hM0
          as_aux_lemma =>
            go_wp2_with (first
              | (go_at_call 119; with_reducible refine (bool2_u64 _ _).mono ?_; rintro e w1 ⟨rfl, rfl⟩)
              | simp only [f64from]
              | fail)
            go_ret3
            exact ⟨⟨sgnN ng, i, _, rfl, by omega, Or.inl rfl⟩, Below.refl _ _⟩
        · have hMz : ((M : Int) == 0) = false := by rw [beq_eq_false_iff_ne]; omega
          by_cases h310 : 310 < x
          · as_aux_lemma =>
              go_wp2_with (first
                | (go_at_call 119; with_reducible refine (bool2_u64 _ _).mono ?_; rintro e w1 ⟨rfl, rfl⟩)
                | simp only [f64from]
                | fail)
              go_ret3
              exact ⟨⟨_, i, _, rfl, hsn, Or.inr (Or.inl rfl)⟩, Below.refl _ _⟩
          · by_cases h345 : x < -345
            · as_aux_lemma =>
                go_wp2_with (first
                  | (go_at_call 119; with_reducible refine (bool2_u64 _ _).mono ?_; rintro e w1 ⟨rfl, rfl⟩)
                  | simp only [f64from]
                  | fail)
                go_ret3
                exact ⟨⟨sgnN ng, i, _, rfl, by omega, Or.inl rfl⟩, Below.refl _ _⟩
            · have HPs : Hid (∀ W, Below w1.heap.size w1 W → Calls Tryz.prog 122 #[.int .u64 (M : Int), .int .i64 x, .int .u64 ((sgnN ng : Nat) : Int)] W fun r w' => TellsE r ∧ Below W.heap.size W w') := fun W hW => parse_some ng M x hM (by omega) (by omega) (by omega) W (by have := hW.size; have := lt_of_cell (HG.out.glob.pow 0 (by decide)).1; omega) (HG.out.glob.pow.below hW)
              cases tr
              · obtain ⟨F, hF, hX⟩ := exact_some ng M x hM (by omega) (by omega) (by omega)
                have HX : Hid _ := hX
                clear hX
                go_wp2_with (first
                  | (go_at_call 119; with_reducible refine (bool2_u64 _ _).mono ?_; rintro e w2 ⟨rfl, rfl⟩)
                  | fail)
                refine (HX.out _ HG.out.glob HG.out.p10).mono ?_
                rintro e w2 ⟨⟨f2, ok2, rfl, hok2⟩, rfl⟩
                have HOK : Hid _ := hok2
                clear hok2
                cases ok2
                · as_aux_lemma =>
                    go_wp2_with fail
                    refine (HPs.out _ (Below.refl _ _)).mono ?_
                    rintro e w3 ⟨⟨f3, v3, rfl, hf3, hv3⟩, hb3⟩
                    have HV : Hid (ErrV v3) := hv3.elim Or.inl (fun h => Or.inr (Or.inl h))
                    clear hv3
                    go_wp2_with fail
                    go_ret3
                    exact ⟨⟨f3, i, v3, rfl, hf3, HV.out⟩, hb3⟩
                · as_aux_lemma =>
                    go_wp2_with fail
                    go_ret3
                    exact ⟨⟨f2, i, _, rfl, by rw [HOK.out (by first | rfl | trivial)]; exact hF, Or.inl rfl⟩, Below.refl _ _⟩
              · have HPt : Hid (∀ W, Below w1.heap.size w1 W → Calls Tryz.prog 122 #[.int .u64 ((M : Int) + 1), .int .i64 x, .int .u64 ((sgnN ng : Nat) : Int)] W fun r w' => TellsE r ∧ Below W.heap.size W w') := fun W hW => parse_some ng (M + 1) x (by omega) (by omega) (by omega) (by omega) W (by have := hW.size; have := lt_of_cell (HG.out.glob.pow 0 (by decide)).1; omega) (HG.out.glob.pow.below hW)
                go_wp2_with (first
                  | (go_at_call 119; with_reducible refine (bool2_u64 _ _).mono ?_; rintro e w2 ⟨rfl, rfl⟩)
                  | fail)
                refine (HPs.out _ (Below.refl _ _)).mono ?_
                rintro e w3 ⟨⟨f3, v3, rfl, hf3, hv3⟩, hb3⟩
                have HV : Hid (ErrV v3) := hv3.elim Or.inl (fun h => Or.inr (Or.inl h))
                clear hv3
                go_wp2_with fail
                refine (HPt.out _ hb3).mono ?_
                rintro e w4 ⟨⟨f4, v4, rfl, hf4, hv4⟩, hb4⟩
                have HB4 : Hid (Below w2.heap.size w2 w4) := hb3.trans (hb4.mono hb3.size)
                clear hv4 hb3 hb4 HPs HPt
                have HSet : Hid (Calls Tryz.prog 117 #[.pointer (some ⟨w4.heap.size, 0, none⟩), .string ((ByteArray.mk l.toArray).extract 0 i)] (w4.alloc (.cells Tryz.zeroCells90 90)) fun e w' => SetTo w4.heap.size (w4.alloc (.cells Tryz.zeroCells90 90)) e w') := by
                  rw [take_bytes]
                  exact set_some (l.take i) (by rw [List.length_take]; omega) _ _ _ _ _ (dec_new w4)
                have HBa : Hid (Below w4.heap.size w4 (w4.alloc (.cells Tryz.zeroCells90 90))) := bel1 w4 _
                go_wp2_with fail
                · as_aux_lemma =>
                    go_ret3
                    exact ⟨⟨f3, i, v3, rfl, hf3, HV.out⟩, HB4.out⟩
                · refine Calls.mono HSet.out ?_
                  rintro e w5 ⟨b, n, dp, rfl, hd0, hd1, hD⟩
                  obtain ⟨D, ng', tr', hDec, hGd, hb5⟩ := hD
                  have HB5 : Hid (Below w4.heap.size w4 w5) := HBa.out.trans hb5
                  have HB6 : Hid (Below w2.heap.size w2 w5) := HB4.out.trans (HB5.out.mono HB4.out.size)
                  have HBits : Hid (Calls Tryz.prog 118 #[.pointer (some ⟨w4.heap.size, 0, none⟩), .pointer (some ⟨7, 0, none⟩)] w5 fun e w' => TellsW e ∧ Below w4.heap.size w5 w') :=
                    bits_some w4.heap.size D n dp ng' tr' hGd w5 hDec ((HG.out.ch.below HB6.out).mono HB4.out.size) ((HG.out.inf.below HB6.out).mono HB4.out.size)
                  clear hDec hGd hb5 HSet HBa hd0 hd1
                  cases b
                  · as_aux_lemma =>
                      go_wp2_with fail
                      go_ret3
                      exact ⟨⟨0, i, _, rfl, by decide, Or.inr (Or.inr rfl)⟩, HB6.out⟩
                  · go_wp2_with fail
                    refine Calls.mono HBits.out ?_
                    rintro e w7 ⟨⟨v7, o7, rfl, hv7⟩, hb7⟩
                    have HB7 : Hid (Below w2.heap.size w2 w7) := HB6.out.trans (hb7.mono HB4.out.size)
                    clear hb7 HBits
                    cases o7
                    · as_aux_lemma =>
                        go_wp2_with (first | simp only [f64from] | fail)
                        go_ret3
                        exact ⟨⟨v7, i, _, rfl, hv7, Or.inl rfl⟩, HB7.out⟩
                    · as_aux_lemma =>
                        go_wp2_with (first | simp only [f64from] | fail)
                        go_ret3
                        exact ⟨⟨v7, i, _, rfl, hv7, Or.inr (Or.inl rfl)⟩, HB7.out⟩
      · have i1 := HG.out.inf.m52
        have i2 := HG.out.inf.e11
        have i3 := HG.out.inf.bias
        have HH : Hid (∀ s, Calls Tryz.prog 112 #[.string s, .pointer (some ⟨7, 0, none⟩), .int .u64 (M : Int), .int .i64 x, .bool ng, .bool tr] w1 fun r w' => TellsE r ∧ DrewOf w1 w') := fun s => hex_some s M x ng tr hM w1 i1 i2 i3 HG.out.eq
        clear i1 i2 i3
        as_aux_lemma =>
          go_wp2_with fail
          refine (HH.out _).mono ?_
          rintro e w3 ⟨⟨f3, v3, rfl, hf3, hv3⟩, q, rfl⟩
          have HV : Hid (ErrV v3) := hv3.elim Or.inl (fun h => Or.inr (Or.inl h))
          clear hv3
          go_wp2_with fail
          go_ret3
          exact ⟨⟨f3, i, v3, rfl, hf3, HV.out⟩, Below.drewN' (Below.refl _ _) _⟩
  · as_aux_lemma =>
      go_wp2_with fail
      go_ret3
      exact ⟨⟨f, k, _, rfl, hf, Or.inl rfl⟩, Below.refl _ _⟩
end Go.Proofs.YtmejmohambhaaaaGreatDoor
/- ParseFloat AND Parse AT EVERY TEXT. Own work of the verifier. -/
namespace Go.Proofs.YtmejmohambhaaaaGreatDoor
open Go.RowKit Go.Sort Soft

/-- A float, and an error or none. -/
def TellsP (e : Ending) : Prop := ∃ (f : Nat) (v : Value), e = .returned (.tuple #[.float .f64 f, v]) ∧ f < 18446744073709551616 ∧ ErrV v
/-- A float, and some error or none. -/
def TellsQ (e : Ending) : Prop := ∃ (f : Nat) (v : Value), e = .returned (.tuple #[.float .f64 f, v]) ∧ f < 18446744073709551616 ∧ (v = .nilIface ∨ ∃ t x, v = .iface t x)
set_option maxHeartbeats 1000000 in
set_option maxRecDepth 100000 in
theorem prefix_o (T : List UInt8) (w : World) (HA : Hid (Calls Tryz.prog 78 #[.string ⟨T.toArray⟩] w fun e w' => TellsA e ∧ Below w.heap.size w w')) :
    Calls Tryz.prog 46 #[.string ⟨T.toArray⟩, .int .i64 64] w fun e w' => TellsA e ∧ Below w.heap.size w w' := by
  go_enter Tryz.func46, Tryz.ntmps46
  go_wp2_with fail
  refine Calls.mono HA.out ?_
  rintro e w1 ⟨⟨f, n, v, rfl, hf, hv⟩, hb1⟩
  have HV : Hid _ := hv
  clear hv
  go_wp2
  go_ret3
  exact ⟨⟨f, n, v, rfl, hf, HV.out⟩, hb1⟩
set_option maxHeartbeats 1000000 in
set_option maxRecDepth 100000 in
theorem parse_o (T : List UInt8) (_hT : T.length ≤ 25) (w : World) (HA : Hid (Calls Tryz.prog 78 #[.string ⟨T.toArray⟩] w fun e w' => TellsA e ∧ Below w.heap.size w w')) :
    Calls Tryz.prog 35 #[.string ⟨T.toArray⟩, .int .i64 64] w fun e w' => TellsP e ∧ Below w.heap.size w w' := by
  go_enter Tryz.func35, Tryz.ntmps35
  go_wp2_with fail
  refine (prefix_o T w HA).mono ?_
  rintro e w1 ⟨⟨f, n, v, rfl, hf, hv⟩, hb1⟩
  have HV : Hid _ := hv
  clear hv
  by_cases hn : n = T.length
  · have hn' : ((n : Int) != (T.length : Int)) = false := by rw [bne_eq_false_iff_eq]; omega
    clear hn
    as_aux_lemma =>
      go_wp2_with fail
      go_ret2
      exact ⟨⟨f, v, rfl, hf, HV.out⟩, hb1⟩
  · have hn' : ((n : Int) != (T.length : Int)) = true := by rw [bne_iff_ne]; omega
    clear hn
    as_aux_lemma =>
      go_wp2_with fail
      go_ret2
      exact ⟨⟨0, _, rfl, by decide, Or.inr (Or.inr rfl)⟩, hb1⟩
/-- The two errors of the library. -/
structure Errs (w : World) : Prop where
  syn : ∃ ev, w.cell? ⟨2, 0, none⟩ = some ev ∧ (ev = .nilIface ∨ ∃ te pe, ev = .iface te pe)
  rng : ∃ ev, w.cell? ⟨3, 0, none⟩ = some ev ∧ (ev = .nilIface ∨ ∃ te pe, ev = .iface te pe)
theorem Errs.below {w w' : World} (h : Errs w) (hb : Below w.heap.size w w') : Errs w' := by
  obtain ⟨e1, h1, k1⟩ := h.syn
  obtain ⟨e2, h2, k2⟩ := h.rng
  exact ⟨⟨e1, by rw [(bcell hb).1 _ _ (lt_of_cell h1), h1], k1⟩, ⟨e2, by rw [(bcell hb).1 _ _ (lt_of_cell h2), h2], k2⟩⟩
set_option maxHeartbeats 1000000 in
set_option maxRecDepth 100000 in
theorem Parse_o (T : List UInt8) (hT : T.length ≤ 25) (w : World) (hE : Errs w) (HA : Hid (Calls Tryz.prog 78 #[.string ⟨T.toArray⟩] w fun e w' => TellsA e ∧ Below w.heap.size w w')) :
    Calls Tryz.prog 22 #[.string ⟨T.toArray⟩, .int .i64 64] w fun e w' => TellsQ e ∧ Below w.heap.size w w' := by
  have hlim : (ByteArray.mk T.toArray).size ≤ 281474976710656 := by show T.toArray.size ≤ _; simp; omega
  go_enter Tryz.func22, Tryz.ntmps22
  go_wp2_with fail
  refine (parse_o T hT w HA).mono ?_
  rintro e w1 ⟨⟨f, v, rfl, hf, hv⟩, hb1⟩
  have hE1 := hE.below hb1
  obtain ⟨e1, s1, k1⟩ := hE1.syn
  obtain ⟨e2, s2, k2⟩ := hE1.rng
  have HS : Hid _ := fun fn base bits => Tryz.strconv_toError_syntax fn ⟨T.toArray⟩ base bits e1 w1 hlim s1 k1
  have HRr : Hid _ := fun fn base bits => Tryz.strconv_toError_range fn ⟨T.toArray⟩ base bits e2 w1 hlim s2 k2
  clear hE hE1 HA s1 s2 k1 k2
  rcases hv with rfl | rfl | rfl
  · as_aux_lemma =>
      go_wp2_with fail
      go_ret2
      exact ⟨⟨f, _, rfl, hf, Or.inl rfl⟩, hb1⟩
  · as_aux_lemma =>
      go_wp2_with fail
      refine (HRr.out _ _ _).mono ?_
      rintro e w2 ⟨N, rfl, hN, hc, hb2⟩
      go_wp2_with fail
      go_ret2
      exact ⟨⟨f, _, rfl, hf, Or.inr ⟨_, _, rfl⟩⟩, hb1.trans (hb2.mono hb1.size)⟩
  · as_aux_lemma =>
      go_wp2_with fail
      refine (HS.out _ _ _).mono ?_
      rintro e w2 ⟨N, rfl, hN, hc, hb2⟩
      go_wp2_with fail
      go_ret2
      exact ⟨⟨f, _, rfl, hf, Or.inr ⟨_, _, rfl⟩⟩, hb1.trans (hb2.mono hb1.size)⟩
/-- What the program's Parse answers: no float's text, or the float whose text it is. -/
def TellsT (l : List UInt8) (e : Ending) : Prop := e = .returned (.tuple #[.float .f64 0, .int .i64 5]) ∨ ∃ u, e = .returned (.tuple #[.float .f64 u, .int .i64 0]) ∧ u < 18446744073709551616 ∧ pText u = l
set_option maxHeartbeats 1000000 in
set_option maxRecDepth 100000 in
theorem Parse_every (l : List UInt8) (hlen : l.length ≤ 9223372036854775807) (w : World) (hG : Glob2 w) (hE : Errs w) (hR : GlobR w) (hrd : l.length ≤ 25 → ∀ W, Calls Tryz.prog 111 #[.string ⟨l.toArray⟩] W fun e w' => TellsR l e ∧ w' = W) :
    Calls Tryz.prog 11 #[.string ⟨l.toArray⟩] w fun e w' => TellsT l e ∧ Below w.heap.size w w' := by
  by_cases h25 : l.length ≤ 25
  · have HA : Hid _ := Parse_o l h25 w hE (atof_some l h25 w hR (hrd h25))
    have hl : (l.length : Int) ≤ 25 := by omega
    have HG : Hid _ := hG
    clear hG hE hR hrd
    go_enter Tryz.func11, Tryz.ntmps11
    go_wp2_with fail
    refine Calls.mono HA.out ?_
    rintro e w1 ⟨⟨u, v, rfl, hu, hv⟩, hb1⟩
    rcases hv with rfl | ⟨t, x, rfl⟩
    · go_wp2_with fail
      refine (print_all u hu w1 (HG.out.below hb1)).mono ?_
      rintro e w2 ⟨rfl, hb2⟩
      have HB : Hid _ := hb1.trans (hb2.mono hb1.size)
      clear hb1 hb2
      by_cases he : pText u = l
      · rw [he]
        have HE : Hid _ := he
        clear he
        as_aux_lemma =>
          go_wp2_with fail
          go_ret2
          exact ⟨Or.inr ⟨u, rfl, hu, HE.out⟩, HB.out⟩
      · have he' : (pText u == l) = false := by simpa using he
        generalize pText u = TU at *
        as_aux_lemma =>
          go_wp2_with fail
          go_ret2
          exact ⟨Or.inl rfl, HB.out⟩
    · as_aux_lemma =>
        go_wp2_with fail
        go_ret2
        exact ⟨Or.inl rfl, hb1⟩
  · have hl : ¬ (l.length : Int) ≤ 25 := by omega
    have hl2 : (25 : Int) < (l.length : Int) := by omega
    as_aux_lemma =>
      go_enter Tryz.func11, Tryz.ntmps11
      go_wp2_with fail
      go_ret2
      exact ⟨Or.inl rfl, Below.refl _ _⟩
theorem GlobR.below {w w' : World} (h : GlobR w) (hb : Below w.heap.size w w') (heq : ∀ q, (binOp .eql 136 (.pointer (some ⟨7, 0, none⟩)) (.pointer (some ⟨6, 0, none⟩))).run Tryz.prog (w'.drewN q) = .ok (.bool false) (w'.drewN q)) : GlobR w' :=
  ⟨h.glob.below hb, h.p10.below hb, (h.ch.below hb).mono hb.size, (h.inf.below hb).mono hb.size, heq⟩
end Go.Proofs.YtmejmohambhaaaaGreatDoor
/- THE DOOR TO THE READING OF EVERY TEXT: what the listed variables give. Own work of the verifier. -/
namespace Go.Proofs.YtmejmohambhaaaaGreatDoor
open Go.ChangeShapes Go.WideShapes Go.ChangeAt Go.RowKit

theorem trod_err {H : Type} {enc : TypeId × Value → H} {P : Program} {w : World} {base : Nat} {spare : Nat → Bool} {held : Bool} {fuel : Nat} {t : TypeId} {cs : List Value} {name : String} {d : DataW H} {p : List MemPlace} {ms : Array (String × TypeId)} (ht : P.underlying t = some (.interface ms)) (h : DataW.trod enc P w base spare held fuel t cs = some (.iface name d, p)) : ∃ u v, cs = [.iface u v] := by
  cases fuel with
  | zero => simp [DataW.trod] at h
  | succ n =>
    unfold DataW.trod at h
    rw [ht] at h
    split at h <;> simp_all
set_option maxRecDepth 100000 in
theorem errs_of_laid {W : World} (h : laidMetH Tryz.prog laids W) : Errs W := by
  rw [MakeChecks.laidMetH_plain _ _ _ (by kernel_rfl)] at h
  obtain ⟨ps, hl, _, _⟩ := h
  refine ⟨?_, ?_⟩
  · obtain ⟨g, t, cs, fuel, p, hg, ht, hv, hd⟩ := laid_at _ _ hl "strconv.ErrSyntax" Rows.laid_strconv_ErrSyntax (by simp)
    obtain rfl := Option.some.inj ((show Tryz.prog.globalNamed "strconv.ErrSyntax" = some 2 by kernel_rfl).symm.trans hg)
    obtain rfl := Option.some.inj ((show (Tryz.prog.globals[2]?).map (·.type) = some 42 by kernel_rfl).symm.trans ht)
    obtain ⟨u, v, hc⟩ := trod_err Tryz.underlying42 hd
    exact ⟨_, cs_cell hg hv 0 (.iface u v) (by rw [hc]; rfl), Or.inr ⟨u, v, rfl⟩⟩
  · obtain ⟨g, t, cs, fuel, p, hg, ht, hv, hd⟩ := laid_at _ _ hl "strconv.ErrRange" Rows.laid_strconv_ErrRange (by simp)
    obtain rfl := Option.some.inj ((show Tryz.prog.globalNamed "strconv.ErrRange" = some 3 by kernel_rfl).symm.trans hg)
    obtain rfl := Option.some.inj ((show (Tryz.prog.globals[3]?).map (·.type) = some 42 by kernel_rfl).symm.trans ht)
    obtain ⟨u, v, hc⟩ := trod_err Tryz.underlying42 hd
    exact ⟨_, cs_cell hg hv 0 (.iface u v) (by rw [hc]; rfl), Or.inr ⟨u, v, rfl⟩⟩
def powL : List Nat := [1, 3, 6, 9, 13, 16, 19, 23, 26]
theorem pow_lits : (Rows.laid_internal_strconv_powtab : DataW Unit) = .slice (powL.map fun (n : Nat) => .lit (.int .i64 (n : Int))) [] := by kernel_rfl
set_option maxRecDepth 100000 in
theorem pow_of_laid {W : World} (h : laidMetH Tryz.prog laids W) : ∃ b o c, b < W.heap.size ∧ W.cell? ⟨11, 0, none⟩ = some (.slice (some ⟨b, o, none⟩) 9 c) ∧ ∀ i, i < 9 → W.cell? ⟨b, o + i, none⟩ = some (.int .i64 (powN i : Int)) := by
  rw [MakeChecks.laidMetH_plain _ _ _ (by kernel_rfl)] at h
  obtain ⟨ps, hl, _, _⟩ := h
  obtain ⟨g, t, cs, fuel, p, hg, ht, hv, hd⟩ := laid_at _ _ hl "internal/strconv.powtab" Rows.laid_internal_strconv_powtab (by simp)
  obtain rfl := Option.some.inj ((show Tryz.prog.globalNamed "internal/strconv.powtab" = some 11 by kernel_rfl).symm.trans hg)
  obtain rfl := Option.some.inj ((show (Tryz.prog.globals[11]?).map (·.type) = some 175 by kernel_rfl).symm.trans ht)
  rw [pow_lits] at hd
  rcases DataW.trod_slice Tryz.underlying175 hd with ⟨_, e⟩ | ⟨a, len, cap, elems, rest, n, _, hcs, ex, _, _, _, hlen, hel, hsp, _⟩
  · cases (Prod.mk.inj e).1
  · have e3 := DataW.slice.inj (Prod.mk.inj ex).1
    have e5 : elems.length = 9 := by have := congrArg List.length e3.1; simpa [powL] using this.symm
    have hlen9 : len = 9 := by omega
    subst hlen9
    have c1 : Tryz.prog.cellsOf 3 = 1 := by kernel_rfl
    have hk : ∀ k, k < 9 → W.cell? (a.add k) = some (.int .i64 (powN k : Int)) := by
      intro k hk
      have hE := hel k hk
      have q : elems[k]? = some (elems[k]'(by omega)) := List.getElem?_eq_getElem (by omega)
      rw [c1, q] at hE
      obtain ⟨cs1, k1, k2⟩ := Option.bind_eq_some_iff.1 hE
      obtain ⟨b1, r1, r2, _⟩ := DataW.trod_int Tryz.underlying3 k2
      have n1 := (World.cells?_some k1).2.2 0 (by decide)
      rw [r1] at n1
      have m1 : W.cell? (a.add (k * 1)) = some (.int .i64 b1) := n1
      rw [Nat.mul_one] at m1
      have e8 : (elems.map (·.1))[k]? = some (.lit (.int .i64 (powN k : Int))) := by
        rw [← e3.1, List.getElem?_map]
        have : powL[k]? = some (powN k) := by
          have hl : k < powL.length := by show k < 9; exact hk
          unfold powN
          rw [List.getD_eq_getElem?_getD]
          show powL[k]? = some ((powL[k]?).getD 0)
          rw [List.getElem?_eq_getElem hl]
          rfl
        rw [this]
        rfl
      rw [List.getElem?_map, q, r2] at e8
      simp only [Option.map_some, Option.some.injEq, DataW.lit.injEq, Lit.int.injEq, true_and] at e8
      rw [m1, e8]
    have m0 := hk 0 (by decide)
    have hs := spot_none m0
    obtain ⟨ab, ao, asp⟩ := a
    have hs : asp = none := by simpa [Addr.add] using hs
    subst hs
    refine ⟨ab, ao, cap, ?_, cs_cell hg hv 0 _ (by rw [hcs]; rfl), fun k h => ?_⟩
    · rw [Addr.add_lit] at m0; exact lt_of_cell m0
    · have := hk k h
      rw [Addr.add_lit] at this
      exact this
theorem cheat_lits : (Rows.laid_internal_strconv_leftcheats : DataW Unit) = .slice (Go.Pinned.cheatRows.map fun x => .agg [.lit (.int .i64 x.1), .lit (.string x.2)]) [] := rfl
set_option maxRecDepth 100000 in
theorem cheat_of_laid {W : World} (h : laidMetH Tryz.prog laids W) : CheatB W.heap.size W := by
  rw [MakeChecks.laidMetH_plain _ _ _ (by kernel_rfl)] at h
  obtain ⟨ps, hl, _, _⟩ := h
  obtain ⟨g, t, cs, fuel, p, hg, ht, hv, hd⟩ := laid_at _ _ hl "internal/strconv.leftcheats" Rows.laid_internal_strconv_leftcheats (by simp)
  obtain rfl := Option.some.inj ((show Tryz.prog.globalNamed "internal/strconv.leftcheats" = some 9 by kernel_rfl).symm.trans hg)
  obtain rfl := Option.some.inj ((show (Tryz.prog.globals[9]?).map (·.type) = some 169 by kernel_rfl).symm.trans ht)
  rw [cheat_lits] at hd
  rcases DataW.trod_slice Tryz.underlying169 hd with ⟨_, e⟩ | ⟨a, len, cap, elems, rest, n, _, hcs, ex, _, _, _, hlen, hel, hsp, _⟩
  · cases (Prod.mk.inj e).1
  · have e3 := DataW.slice.inj (Prod.mk.inj ex).1
    have hr : Go.Pinned.cheatRows.length = 61 := by kernel_rfl
    have e5 : elems.length = 61 := by have := congrArg List.length e3.1; rw [List.length_map, List.length_map, hr] at this; exact this.symm
    have hlen61 : len = 61 := by omega
    subst hlen61
    have c2 : Tryz.prog.cellsOf 168 = 2 := by kernel_rfl
    have c1 : Tryz.prog.cellsOf 3 = 1 := by kernel_rfl
    have c1s : Tryz.prog.cellsOf 9 = 1 := by kernel_rfl
    have hk : ∀ k, k < 61 → W.cell? (a.add (k * 2)) = some (.int .i64 (chD k : Int)) ∧ W.cell? ((a.add (k * 2)).add 1) = some (.string ⟨(chS k).toArray⟩) := by
      intro k hk
      have hE := hel k hk
      have q : elems[k]? = some (elems[k]'(by omega)) := List.getElem?_eq_getElem (by omega)
      rw [c2, q] at hE
      obtain ⟨cs1, k1, k2⟩ := Option.bind_eq_some_iff.1 hE
      obtain ⟨xs, m, _, exs, _, hxl, hxe⟩ := DataW.trod_struct Tryz.underlying168 k2
      have hx2 : xs.length = 2 := hxl
      have hE0 := hxe 0 _ rfl
      have hE1 := hxe 1 _ rfl
      rw [List.getElem?_eq_getElem (by omega)] at hE0 hE1
      obtain ⟨z0, f0, g0, _⟩ := DataW.trod_int Tryz.underlying3 hE0
      obtain ⟨z1, f1, g1, _⟩ := DataW.trod_string Tryz.underlying9 hE1
      have hD : Go.Pinned.cheatRows[k]? = some (chD k, chS k) := by
        have hlt : k < Go.Pinned.cheatRows.length := by omega
        unfold chD chS
        rw [List.getD_eq_getElem?_getD, List.getElem?_eq_getElem hlt]
        rfl
      have e8 : (elems.map (·.1))[k]? = some (.agg [.lit (.int .i64 (chD k : Int)), .lit (.string (chS k))]) := by
        rw [← e3.1, List.getElem?_map, hD]
        rfl
      rw [List.getElem?_map, q, Option.map_some, exs, Option.some.injEq] at e8
      have e9 := DataW.agg.inj e8
      have a0 : (xs.map (·.1))[0]? = some (.lit (.int .i64 (chD k : Int))) := by rw [e9]; rfl
      have a1 : (xs.map (·.1))[1]? = some (.lit (.string (chS k))) := by rw [e9]; rfl
      rw [List.getElem?_map, List.getElem?_eq_getElem (by omega : 0 < xs.length), g0] at a0
      rw [List.getElem?_map, List.getElem?_eq_getElem (by omega : 1 < xs.length), g1] at a1
      simp only [Option.map_some, Option.some.injEq, DataW.lit.injEq, Lit.int.injEq, true_and] at a0
      simp only [Option.map_some, Option.some.injEq, DataW.lit.injEq, Lit.string.injEq] at a1
      have f0' : (cs1.drop 0).take (Tryz.prog.cellsOf 3) = [.int .i64 z0] := f0
      have f1' : (cs1.drop 1).take (Tryz.prog.cellsOf 9) = [.string z1] := f1
      rw [c1] at f0'
      rw [c1s] at f1'
      have n0 := (World.cells?_some k1).2.2 0 (by decide)
      have n1 := (World.cells?_some k1).2.2 1 (by decide)
      have b0 : cs1[0]? = some (.int .i64 z0) := by
        have h0 : ((cs1.drop 0).take 1)[0]? = some (.int .i64 z0) := by rw [f0']; rfl
        simpa using h0
      have b1 : cs1[1]? = some (.string z1) := by
        have h0 : ((cs1.drop 1).take 1)[0]? = some (.string z1) := by rw [f1']; rfl
        simpa using h0
      have hz : z1 = ⟨(chS k).toArray⟩ := ByteArray.ext (by rw [← a1])
      refine ⟨?_, ?_⟩
      · have : (a.add (k * 2)).add 0 = a.add (k * 2) := by simp [Addr.add]
        rw [this] at n0
        rw [n0, b0, a0]
      · rw [n1, b1, hz]
    have m0 := (hk 0 (by decide)).1
    have hs := spot_none m0
    obtain ⟨ab, ao, asp⟩ := a
    have hs : asp = none := by simpa [Addr.add] using hs
    subst hs
    have hG0 : W.cell? ⟨9, 0, none⟩ = some (.slice (some ⟨ab, ao, none⟩) 61 cap) := cs_cell hg hv 0 _ (by rw [hcs]; rfl)
    refine ⟨lt_of_cell hG0, ab, ao, cap, ?_, hG0, fun k h => ?_⟩
    · rw [Addr.add_lit] at m0; exact lt_of_cell m0
    · have := hk k h
      rw [Addr.add_lit, Addr.add_lit] at this
      exact this
set_option maxRecDepth 100000 in
theorem info_of_laid {W : World} (h : laidMetH Tryz.prog laids W) : InfoB W.heap.size W := by
  have hp := pow_of_laid h
  have hm := (glob_of_laid h).1.m52
  rw [MakeChecks.laidMetH_plain _ _ _ (by kernel_rfl)] at h
  obtain ⟨ps, hl, _, _⟩ := h
  obtain ⟨g, t, cs, fuel, p, hg, ht, hv, hd⟩ := laid_at _ _ hl "internal/strconv.float64info" Rows.laid_internal_strconv_float64info (by simp)
  obtain rfl := Option.some.inj ((show Tryz.prog.globalNamed "internal/strconv.float64info" = some 7 by kernel_rfl).symm.trans hg)
  obtain rfl := Option.some.inj ((show (Tryz.prog.globals[7]?).map (·.type) = some 138 by kernel_rfl).symm.trans ht)
  obtain ⟨xs, m, _, ex, _, hlen, hel⟩ := DataW.trod_struct Tryz.underlying138 hd
  have c1 : Tryz.prog.cellsOf 70 = 1 := by kernel_rfl
  have c1i : Tryz.prog.cellsOf 3 = 1 := by kernel_rfl
  have hE1 := hel 1 _ rfl
  have hE2 := hel 2 _ rfl
  have hlen3 : xs.length = 3 := hlen
  rw [List.getElem?_eq_getElem (by omega)] at hE1 hE2
  obtain ⟨z1, f1, g1, _⟩ := DataW.trod_int Tryz.underlying70 hE1
  obtain ⟨z2, f2, g2, _⟩ := DataW.trod_int Tryz.underlying3 hE2
  have e3 : (xs.map (·.1)) = [.lit (.int .u64 52), .lit (.int .u64 11), .lit (.int .i64 (-1023))] := (DataW.agg.inj (Prod.mk.inj ex).1).symm
  have e4 : (xs.map (·.1))[1]? = some (.lit (.int .u64 11)) := by rw [e3]; rfl
  have e5 : (xs.map (·.1))[2]? = some (.lit (.int .i64 (-1023))) := by rw [e3]; rfl
  rw [List.getElem?_map, List.getElem?_eq_getElem (by omega : 1 < xs.length), g1] at e4
  rw [List.getElem?_map, List.getElem?_eq_getElem (by omega : 2 < xs.length), g2] at e5
  simp only [Option.map_some, Option.some.injEq, DataW.lit.injEq, Lit.int.injEq, true_and] at e4 e5
  subst e4
  subst e5
  have f1' : (cs.toList.drop 1).take (Tryz.prog.cellsOf 70) = [.int .u64 11] := f1
  have f2' : (cs.toList.drop 2).take (Tryz.prog.cellsOf 3) = [.int .i64 (-1023)] := f2
  rw [c1] at f1'
  rw [c1i] at f2'
  obtain ⟨b, o, c, p1, p2, p3⟩ := hp
  exact ⟨lt_of_cell hm, lt_of_cell p2, hm, cs_cell hg hv 1 _ f1', cs_cell hg hv 2 _ f2', b, o, c, p1, p2, p3⟩
/-- Both descriptions are rows of their own. -/
def Blks (w : World) : Prop := (∃ ca t, w.heap[7]? = some (.cells ca t)) ∧ ∃ cb t, w.heap[6]? = some (.cells cb t)
theorem Blks.below {w w' : World} (h : Blks w) (hb : Below w.heap.size w w') : Blks w' := by
  obtain ⟨⟨ca, t, h1⟩, cb, u, h2⟩ := h
  have k1 : 7 < w.heap.size := by
    rcases Nat.lt_or_ge 7 w.heap.size with k | k
    · exact k
    · rw [Array.getElem?_eq_none k] at h1; cases h1
  have k2 : 6 < w.heap.size := by
    rcases Nat.lt_or_ge 6 w.heap.size with k | k
    · exact k
    · rw [Array.getElem?_eq_none k] at h2; cases h2
  exact ⟨⟨ca, t, by rw [hb.block _ k1]; exact h1⟩, cb, u, by rw [hb.block _ k2]; exact h2⟩
theorem drewN_heap' (w : World) (q : Nat) : (w.drewN q).heap = w.heap := by
  induction q with
  | zero => rfl
  | succ q ih => exact ih
theorem Blks.eq {w : World} (h : Blks w) (q : Nat) : (binOp .eql 136 (.pointer (some ⟨7, 0, none⟩)) (.pointer (some ⟨6, 0, none⟩))).run Tryz.prog (w.drewN q) = .ok (.bool false) (w.drewN q) := by
  obtain ⟨⟨ca, t, h1⟩, cb, u, h2⟩ := h
  obtain ⟨j, hj, hs⟩ := Option.map_eq_some_iff.1 (show (Tryz.prog.info? 138).map (·.size) = some 3 by kernel_rfl)
  exact run_eql_ptr_other (w.drewN q) Tryz.underlying136 hj (by rw [hs]; decide) (fun k => by injection k with k; exact absurd k (by decide)) (by rw [drewN_heap']; exact h1) (by rw [drewN_heap']; exact h2)
set_option maxRecDepth 100000 in
theorem blks_of {W : World} (h : W.ShapedOpen Tryz.prog) : Blks W := by
  obtain ⟨ca, h1, _⟩ := h.1 7 #[.int .u64 0, .int .u64 0, .int .i64 0] 138 (of_decide_eq_true (by kernel_rfl)) (by kernel_rfl)
  obtain ⟨cb, h2, _⟩ := h.1 6 #[.int .u64 0, .int .u64 0, .int .i64 0] 138 (of_decide_eq_true (by kernel_rfl)) (by kernel_rfl)
  exact ⟨⟨ca, _, h1⟩, cb, _, h2⟩
end Go.Proofs.YtmejmohambhaaaaGreatDoor
