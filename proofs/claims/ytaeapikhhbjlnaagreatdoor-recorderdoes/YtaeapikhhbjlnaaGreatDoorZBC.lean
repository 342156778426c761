/- THE DOCUMENT's MACHINE: the steps of a summary. Own work of the verifier. -/
import Derived.Test.YtaeapikhhbjlnaaGreatDoorZBB
namespace Go.Proofs.YtaeapikhhbjlnaaGreatDoor
open Go.RowKit

theorem Dst.below {cb mb rb : Nat} {c : Cl} {m : Mc} {row : List Int} {w w' : World} (h : Dst cb mb rb c m row w) (hb : Below w.heap.size w w') : Dst cb mb rb c m row w' :=
  ⟨(hb.block _ (Array.getElem?_eq_some_iff.1 h.call).1).trans h.call, (hb.block _ (Array.getElem?_eq_some_iff.1 h.mach).1).trans h.mach, (hb.block _ (Array.getElem?_eq_some_iff.1 h.rowd).1).trans h.rowd⟩
/-- A number by which floats stand in order. -/
def keyN (x : Nat) : Nat := if 9223372036854775808 ≤ x then 18446744073709551615 - x else x + 9223372036854775808
theorem sh63 (x : Nat) (h : x < 18446744073709551616) : (x : Int) / 9223372036854775808 = if 9223372036854775808 ≤ x then 1 else 0 := by split <;> omega
theorem key_any (x : Nat) (hx : x < 18446744073709551616) (w : World) : Calls Tryz.prog 187 #[.int .u64 (x : Int)] w fun e w' => e = .returned (.int .u64 (keyN x : Nat)) ∧ w' = w := by
  have hs := sh63 x hx
  unfold keyN
  by_cases h : 9223372036854775808 ≤ x
  · rw [if_pos h] at hs ⊢
    have h1 := Pr.not_word x hx
    generalize hy : 18446744073709551615 - x = y at *
    clear hy
    go_enter Tryz.func187, Tryz.ntmps187
    go_wp2
    go_ret
    exact ⟨rfl, rfl⟩
  · rw [if_neg h] at hs ⊢
    have h1 := Pr.or_sign2 x (by omega)
    generalize hy : x + 9223372036854775808 = y at *
    clear hy
    go_enter Tryz.func187, Tryz.ntmps187
    go_wp2
    go_ret
    exact ⟨rfl, rfl⟩
theorem stands_any (x y : Nat) (hx : x < 18446744073709551616) (hy : y < 18446744073709551616) (w : World) : Calls Tryz.prog 142 #[.int .u64 (x : Int), .int .u64 (y : Int)] w fun e w' => e = .returned (.bool (decide (keyN x < keyN y))) ∧ w' = w := by
  have HX : Hid (∀ W, _) := key_any x hx
  have HY : Hid (∀ W, _) := key_any y hy
  have hd : decide ((keyN x : Int) < (keyN y : Int)) = decide (keyN x < keyN y) := by
    by_cases h : keyN x < keyN y
    · rw [decide_eq_true h, decide_eq_true (by omega)]
    · rw [decide_eq_false h, decide_eq_false (by omega)]
  generalize decide (keyN x < keyN y) = b at *
  generalize ((keyN x : Nat) : Int) = u at *
  generalize ((keyN y : Nat) : Int) = v at *
  clear hx hy
  go_enter Tryz.func142, Tryz.ntmps142
  go_wp2_with (go_at_call 187; (first | (with_reducible refine Calls.mono (HX.out _) ?_) | (with_reducible refine Calls.mono (HY.out _) ?_)); rintro e w1 ⟨rfl, rfl⟩)
  go_ret
  exact ⟨rfl, rfl⟩
/-- What a step of a pair reads. -/
abbrev FS (cb rb cap a b x : Nat) (V : World) : Prop := V.cell? ⟨cb, 17, none⟩ = some (.slice (some ⟨rb, 0, none⟩) 5 cap) ∧ V.cell? ⟨cb, 19, none⟩ = some (.int .u64 (a : Int)) ∧ V.cell? ⟨cb, 20, none⟩ = some (.int .u64 (b : Int)) ∧ V.cell? ⟨cb, 8, none⟩ = some (.int .u64 (x : Int))
theorem FS.set {cb rb cap a b x : Nat} {V : World} (h : FS cb rb cap a b x V) (hne : ¬ cb = rb) (o : Nat) (v : Value) : FS cb rb cap a b x (V.setCell ⟨rb, o, none⟩ v) := by
  have k : ∀ (j : Nat), (V.setCell ⟨rb, o, none⟩ v).cell? ⟨cb, j, none⟩ = V.cell? ⟨cb, j, none⟩ := fun j => World.cell?_setCell_other V ⟨rb, o, none⟩ ⟨cb, j, none⟩ v (fun e => hne (by injection e with e; exact e.symm))
  unfold FS
  rw [k, k, k, k]
  exact h
theorem wi64 (z : Int) : IntKind.i64.wrap z = wrap64 z := by simp [wrap64, IntKind.wrap_i64]
theorem fld0 (u v : Int) (W : World) : (Instr.field 128 (.agg #[.int .u64 u, .int .u64 v]) 0).run Tryz.prog W = .ok (.int .u64 u) W := by kernel_rfl
theorem fld1 (u v : Int) (W : World) : (Instr.field 128 (.agg #[.int .u64 u, .int .u64 v]) 1).run Tryz.prog W = .ok (.int .u64 v) W := by kernel_rfl
theorem below_undrew2 {X W' : World} (hb : Below X.drew.heap.size X.drew W') : Below X.heap.size X W' := ⟨hb.os, hb.tape, hb.output, hb.size, hb.block⟩
set_option maxRecDepth 10000 in
set_option maxHeartbeats 4000000 in
theorem float_2 (cb mb rb : Nat) (c : Cl) (m : Mc) (k : Int) (s cc mn mx cap : Nat) (w : World) (H : Dst cb mb rb c m (sRow k s cc mn mx) w) (ha : c.at_ = 2) (ht : c.tov = .slice (some ⟨rb, 0, none⟩) 5 cap) :
    Calls Tryz.prog 250 #[.pointer (some ⟨cb, 0, none⟩)] w fun e w' => e = .returned (.tuple #[]) ∧ Hid (Dst cb mb rb { c with at_ := 3 } m (sRow (wrap64 (k + 1)) s cc mn mx) w') ∧ Hid (Chg (D3 cb mb rb) w w') := by
  obtain ⟨a1, a2, a3, a4, a5, a6⟩ := H.ne
  have c9 : w.cell? ⟨cb, 9, none⟩ = some (.int .i64 2) := H.cc 9 _ (by rw [← ha]; rfl)
  have c17 : w.cell? ⟨cb, 17, none⟩ = some (.slice (some ⟨rb, 0, none⟩) 5 cap) := H.cc 17 _ (by rw [← ht]; rfl)
  have f9 := H.cf 9
  have r0 : w.cell? ⟨rb, 0, none⟩ = some (.int .i64 k) := H.rr 0 k rfl
  have f0 := H.rf 0
  have HQ : Hid (Dst cb mb rb { c with at_ := 3 } m (sRow (wrap64 (k + 1)) s cc mn mx) ((w.setCell ⟨cb, 9, none⟩ (.int .i64 3)).setCell ⟨rb, 0, none⟩ (.int .i64 (wrap64 (k + 1))))) := by
    have := (H.putC 9 (.int .i64 3) { c with at_ := 3 } rfl).putR 0 (wrap64 (k + 1))
    rw [sRow_0] at this
    exact this
  have HC : Hid (Chg (D3 cb mb rb) w ((w.setCell ⟨cb, 9, none⟩ (.int .i64 3)).setCell ⟨rb, 0, none⟩ (.int .i64 (wrap64 (k + 1))))) := d3_r (d3_c (Chg.refl _ _) _ _) _ _
  clear H ha ht
  go_enter Tryz.func250, Tryz.ntmps250
  go_wp2
  first | go_end0 | refine bodyPost_ret (results_none rfl _ _ _) rfl ?_
  exact ⟨rfl, HQ, HC⟩
set_option maxRecDepth 10000 in
set_option maxHeartbeats 4000000 in
theorem float_3 (cb mb rb : Nat) (c : Cl) (m : Mc) (k : Int) (s cc mn mx cap : Nat) (w : World) (H : Dst cb mb rb c m (sRow k s cc mn mx) w) (ha : c.at_ = 3) (ht : c.tov = .slice (some ⟨rb, 0, none⟩) 5 cap) (hv : s < 18446744073709551616) :
    Calls Tryz.prog 250 #[.pointer (some ⟨cb, 0, none⟩)] w fun e w' => e = .returned (.tuple #[]) ∧ Hid (Dst cb mb rb { c with at_ := 4, told := (s : Int) } m (sRow k s cc mn mx) w') ∧ Hid (Chg (D3 cb mb rb) w w') := by
  obtain ⟨a1, a2, a3, a4, a5, a6⟩ := H.ne
  have c9 : w.cell? ⟨cb, 9, none⟩ = some (.int .i64 3) := H.cc 9 _ (by rw [← ha]; rfl)
  have c17 : w.cell? ⟨cb, 17, none⟩ = some (.slice (some ⟨rb, 0, none⟩) 5 cap) := H.cc 17 _ (by rw [← ht]; rfl)
  have f9 := H.cf 9
  have r1 : w.cell? ⟨rb, 1, none⟩ = some (.int .i64 (fw64 s)) := H.rr 1 _ rfl
  have fc := H.cf 19
  have cx : w.cell? ⟨cb, 19, none⟩ = some (.int .u64 c.told) := H.cc 19 _ rfl
  have hu := fw64_u s hv
  have HQ : Hid (Dst cb mb rb { c with at_ := 4, told := (s : Int) } m (sRow k s cc mn mx) ((w.setCell ⟨cb, 9, none⟩ (.int .i64 4)).setCell ⟨cb, 19, none⟩ (.int .u64 (s : Int)))) := (H.putC 9 (.int .i64 4) { c with at_ := 4 } rfl).putC 19 _ _ rfl
  have HC : Hid (Chg (D3 cb mb rb) w ((w.setCell ⟨cb, 9, none⟩ (.int .i64 4)).setCell ⟨cb, 19, none⟩ (.int .u64 (s : Int)))) := d3_c (d3_c (Chg.refl _ _) _ _) _ _
  clear H ha ht hv
  generalize fw64 s = z at r1 hu
  go_enter Tryz.func250, Tryz.ntmps250
  go_wp2
  first | go_end0 | refine bodyPost_ret (results_none rfl _ _ _) rfl ?_
  exact ⟨rfl, HQ, HC⟩
set_option maxRecDepth 10000 in
set_option maxHeartbeats 4000000 in
theorem float_4 (cb mb rb : Nat) (c : Cl) (m : Mc) (k : Int) (s cc mn mx cap : Nat) (w : World) (H : Dst cb mb rb c m (sRow k s cc mn mx) w) (ha : c.at_ = 4) (ht : c.tov = .slice (some ⟨rb, 0, none⟩) 5 cap) (hv : cc < 18446744073709551616) :
    Calls Tryz.prog 250 #[.pointer (some ⟨cb, 0, none⟩)] w fun e w' => e = .returned (.tuple #[]) ∧ Hid (Dst cb mb rb { c with at_ := 5, rest := (cc : Int) } m (sRow k s cc mn mx) w') ∧ Hid (Chg (D3 cb mb rb) w w') := by
  obtain ⟨a1, a2, a3, a4, a5, a6⟩ := H.ne
  have c9 : w.cell? ⟨cb, 9, none⟩ = some (.int .i64 4) := H.cc 9 _ (by rw [← ha]; rfl)
  have c17 : w.cell? ⟨cb, 17, none⟩ = some (.slice (some ⟨rb, 0, none⟩) 5 cap) := H.cc 17 _ (by rw [← ht]; rfl)
  have f9 := H.cf 9
  have r1 : w.cell? ⟨rb, 2, none⟩ = some (.int .i64 (fw64 cc)) := H.rr 2 _ rfl
  have fc := H.cf 20
  have cx : w.cell? ⟨cb, 20, none⟩ = some (.int .u64 c.rest) := H.cc 20 _ rfl
  have hu := fw64_u cc hv
  have HQ : Hid (Dst cb mb rb { c with at_ := 5, rest := (cc : Int) } m (sRow k s cc mn mx) ((w.setCell ⟨cb, 9, none⟩ (.int .i64 5)).setCell ⟨cb, 20, none⟩ (.int .u64 (cc : Int)))) := (H.putC 9 (.int .i64 5) { c with at_ := 5 } rfl).putC 20 _ _ rfl
  have HC : Hid (Chg (D3 cb mb rb) w ((w.setCell ⟨cb, 9, none⟩ (.int .i64 5)).setCell ⟨cb, 20, none⟩ (.int .u64 (cc : Int)))) := d3_c (d3_c (Chg.refl _ _) _ _) _ _
  clear H ha ht hv
  generalize fw64 cc = z at r1 hu
  go_enter Tryz.func250, Tryz.ntmps250
  go_wp2
  first | go_end0 | refine bodyPost_ret (results_none rfl _ _ _) rfl ?_
  exact ⟨rfl, HQ, HC⟩
set_option maxRecDepth 10000 in
set_option maxHeartbeats 4000000 in
theorem float_5 (cb mb rb : Nat) (c : Cl) (m : Mc) (k : Int) (s cc mn mx cap : Nat) (w : World) (H : Dst cb mb rb c m (sRow k s cc mn mx) w) (ha : c.at_ = 5) (ht : c.tov = .slice (some ⟨rb, 0, none⟩) 5 cap) (a b x : Nat) (h1 : c.told = (a : Int)) (h2 : c.rest = (b : Int)) (h3 : c.f = (x : Int)) (ha1 : a < 18446744073709551616) (hb1 : b < 18446744073709551616) (hx : x < 18446744073709551616) :
    Calls Tryz.prog 250 #[.pointer (some ⟨cb, 0, none⟩)] w fun e w' => e = .returned (.tuple #[]) ∧ Hid (Dst cb mb rb { c with at_ := 6 } m (sRow k (Soft.fa a x) cc mn mx) w') ∧ Hid (Chg (D3 cb mb rb) w w') := by
  obtain ⟨a1, a2, a3, a4, a5, a6⟩ := H.ne
  have c9 : w.cell? ⟨cb, 9, none⟩ = some (.int .i64 5) := H.cc 9 _ (by rw [← ha]; rfl)
  have c17 : w.cell? ⟨cb, 17, none⟩ = some (.slice (some ⟨rb, 0, none⟩) 5 cap) := H.cc 17 _ (by rw [← ht]; rfl)
  have f9 := H.cf 9
  have H1 := H.putC 9 (.int .i64 6) { c with at_ := 6 } rfl
  obtain ⟨w1, hw1⟩ : ∃ w1, w1 = w.setCell ⟨cb, 9, none⟩ (.int .i64 6) := ⟨_, rfl⟩
  have hc1 : Chg (D3 cb mb rb) w w1 := by rw [hw1]; exact d3_c (Chg.refl _ _) _ _
  rw [← hw1] at H1
  have d9 : w1.cell? ⟨cb, 9, none⟩ = some (.int .i64 6) := H1.cc 9 _ rfl
  have d17 : w1.cell? ⟨cb, 17, none⟩ = some (.slice (some ⟨rb, 0, none⟩) 5 cap) := H1.cc 17 _ (by rw [← ht]; rfl)
  have d19 : w1.cell? ⟨cb, 19, none⟩ = some (.int .u64 (a : Int)) := H1.cc 19 _ (by rw [← h1]; rfl)
  have d20 : w1.cell? ⟨cb, 20, none⟩ = some (.int .u64 (b : Int)) := H1.cc 20 _ (by rw [← h2]; rfl)
  have d8 : w1.cell? ⟨cb, 8, none⟩ = some (.int .u64 (x : Int)) := H1.cc 8 _ (by rw [← h3]; rfl)
  have HP : Hid (∀ _ : Unit, Calls Tryz.prog 280 #[.agg #[.int .u64 (a : Int), .int .u64 (b : Int)], .int .u64 (x : Int)] w1.drew fun e w' => e = .returned (.agg #[.int .u64 (Soft.fa a x : Nat), .int .u64 (Soft.fa b (Soft.fl a x) : Nat)]) ∧ (∃ u, w'.cell? ⟨rb, 1, none⟩ = some (.int .i64 u)) ∧ w'.frozen? ⟨rb, 1, none⟩ = false ∧ (w'.cell? ⟨cb, 17, none⟩ = some (.slice (some ⟨rb, 0, none⟩) 5 cap) ∧ w'.cell? ⟨cb, 19, none⟩ = some (.int .u64 (a : Int)) ∧ w'.cell? ⟨cb, 20, none⟩ = some (.int .u64 (b : Int)) ∧ w'.cell? ⟨cb, 8, none⟩ = some (.int .u64 (x : Int))) ∧ Hid (Dst cb mb rb { c with at_ := 6 } m (sRow k (Soft.fa a x) cc mn mx) (w'.setCell ⟨rb, 1, none⟩ (.int .i64 (wrap64 ((Soft.fa a x : Nat) : Int))))) ∧ Hid (Chg (D3 cb mb rb) w (w'.setCell ⟨rb, 1, none⟩ (.int .i64 (wrap64 ((Soft.fa a x : Nat) : Int)))))) := fun _ => by
    refine Calls.mono (Pr.refput_any a b x ha1 hb1 hx w1.drew) ?_
    rintro e w' ⟨rfl, hb⟩
    have H2 := H1.drew.below hb
    have H3 := H2.putR 1 (fw64 (Soft.fa a x))
    rw [sRow_1] at H3
    refine ⟨rfl, ⟨_, H2.rr 1 _ rfl⟩, H2.rf 1, ⟨H2.cc 17 _ (by rw [← ht]; rfl), H2.cc 19 _ (by rw [← h1]; rfl), H2.cc 20 _ (by rw [← h2]; rfl), H2.cc 8 _ (by rw [← h3]; rfl)⟩, H3, d3_r (hc1.trans (Chg.of_below (S := fun _ => False) (below_undrew2 hb)) (fun x e => e.elim)) _ _⟩
  clear H H1 ha ht h1 h2 h3 ha1 hb1 hx hc1
  have hf0 := fld0
  have hf1 := fld1
  generalize Soft.fa a x = y1 at *
  generalize Soft.fa b (Soft.fl a x) = y2 at *
  go_enter Tryz.func250, Tryz.ntmps250
  go_upto_region 11 with fail
  rw [← hw1]
  clear hw1
  go_region_held3 (fun V => FS cb rb cap a b x V) (first | with_reducible assumption | exact ⟨d17, d19, d20, d8⟩ | exact FS.set (by with_reducible assumption) (by with_reducible assumption) _ _)
    ((go_at_call 280; with_reducible refine Calls.mono (HP.out ()) ?_; rintro e w2 ⟨rfl, ⟨u2, k1⟩, k2, ⟨e1, e2, e3, e4⟩, HQ, HC⟩; have e5 : FS cb rb cap a b x w2 := ⟨e1, e2, e3, e4⟩))
  all_goals
    go_wp2_with fail
    first | go_end0 | refine bodyPost_ret (results_none rfl _ _ _) rfl ?_
    first | exact ⟨rfl, HQ, HC⟩ | (rw [wi64]; exact ⟨rfl, HQ, HC⟩)
set_option maxRecDepth 10000 in
set_option maxHeartbeats 4000000 in
theorem float_6 (cb mb rb : Nat) (c : Cl) (m : Mc) (k : Int) (s cc mn mx cap : Nat) (w : World) (H : Dst cb mb rb c m (sRow k s cc mn mx) w) (ha : c.at_ = 6) (ht : c.tov = .slice (some ⟨rb, 0, none⟩) 5 cap) (a b x : Nat) (h1 : c.told = (a : Int)) (h2 : c.rest = (b : Int)) (h3 : c.f = (x : Int)) (ha1 : a < 18446744073709551616) (hb1 : b < 18446744073709551616) (hx : x < 18446744073709551616) :
    Calls Tryz.prog 250 #[.pointer (some ⟨cb, 0, none⟩)] w fun e w' => e = .returned (.tuple #[]) ∧ Hid (Dst cb mb rb { c with at_ := 7 } m (sRow k s (Soft.fa b (Soft.fl a x)) mn mx) w') ∧ Hid (Chg (D3 cb mb rb) w w') := by
  obtain ⟨a1, a2, a3, a4, a5, a6⟩ := H.ne
  have c9 : w.cell? ⟨cb, 9, none⟩ = some (.int .i64 6) := H.cc 9 _ (by rw [← ha]; rfl)
  have c17 : w.cell? ⟨cb, 17, none⟩ = some (.slice (some ⟨rb, 0, none⟩) 5 cap) := H.cc 17 _ (by rw [← ht]; rfl)
  have f9 := H.cf 9
  have H1 := H.putC 9 (.int .i64 7) { c with at_ := 7 } rfl
  obtain ⟨w1, hw1⟩ : ∃ w1, w1 = w.setCell ⟨cb, 9, none⟩ (.int .i64 7) := ⟨_, rfl⟩
  have hc1 : Chg (D3 cb mb rb) w w1 := by rw [hw1]; exact d3_c (Chg.refl _ _) _ _
  rw [← hw1] at H1
  have d9 : w1.cell? ⟨cb, 9, none⟩ = some (.int .i64 7) := H1.cc 9 _ rfl
  have d17 : w1.cell? ⟨cb, 17, none⟩ = some (.slice (some ⟨rb, 0, none⟩) 5 cap) := H1.cc 17 _ (by rw [← ht]; rfl)
  have d19 : w1.cell? ⟨cb, 19, none⟩ = some (.int .u64 (a : Int)) := H1.cc 19 _ (by rw [← h1]; rfl)
  have d20 : w1.cell? ⟨cb, 20, none⟩ = some (.int .u64 (b : Int)) := H1.cc 20 _ (by rw [← h2]; rfl)
  have d8 : w1.cell? ⟨cb, 8, none⟩ = some (.int .u64 (x : Int)) := H1.cc 8 _ (by rw [← h3]; rfl)
  have HP : Hid (∀ _ : Unit, Calls Tryz.prog 280 #[.agg #[.int .u64 (a : Int), .int .u64 (b : Int)], .int .u64 (x : Int)] w1.drew fun e w' => e = .returned (.agg #[.int .u64 (Soft.fa a x : Nat), .int .u64 (Soft.fa b (Soft.fl a x) : Nat)]) ∧ (∃ u, w'.cell? ⟨rb, 2, none⟩ = some (.int .i64 u)) ∧ w'.frozen? ⟨rb, 2, none⟩ = false ∧ (w'.cell? ⟨cb, 17, none⟩ = some (.slice (some ⟨rb, 0, none⟩) 5 cap) ∧ w'.cell? ⟨cb, 19, none⟩ = some (.int .u64 (a : Int)) ∧ w'.cell? ⟨cb, 20, none⟩ = some (.int .u64 (b : Int)) ∧ w'.cell? ⟨cb, 8, none⟩ = some (.int .u64 (x : Int))) ∧ Hid (Dst cb mb rb { c with at_ := 7 } m (sRow k s (Soft.fa b (Soft.fl a x)) mn mx) (w'.setCell ⟨rb, 2, none⟩ (.int .i64 (wrap64 ((Soft.fa b (Soft.fl a x) : Nat) : Int))))) ∧ Hid (Chg (D3 cb mb rb) w (w'.setCell ⟨rb, 2, none⟩ (.int .i64 (wrap64 ((Soft.fa b (Soft.fl a x) : Nat) : Int)))))) := fun _ => by
    refine Calls.mono (Pr.refput_any a b x ha1 hb1 hx w1.drew) ?_
    rintro e w' ⟨rfl, hb⟩
    have H2 := H1.drew.below hb
    have H3 := H2.putR 2 (fw64 (Soft.fa b (Soft.fl a x)))
    rw [sRow_2] at H3
    refine ⟨rfl, ⟨_, H2.rr 2 _ rfl⟩, H2.rf 2, ⟨H2.cc 17 _ (by rw [← ht]; rfl), H2.cc 19 _ (by rw [← h1]; rfl), H2.cc 20 _ (by rw [← h2]; rfl), H2.cc 8 _ (by rw [← h3]; rfl)⟩, H3, d3_r (hc1.trans (Chg.of_below (S := fun _ => False) (below_undrew2 hb)) (fun x e => e.elim)) _ _⟩
  clear H H1 ha ht h1 h2 h3 ha1 hb1 hx hc1
  have hf0 := fld0
  have hf1 := fld1
  generalize Soft.fa a x = y1 at *
  generalize Soft.fa b (Soft.fl a x) = y2 at *
  go_enter Tryz.func250, Tryz.ntmps250
  go_upto_region 13 with fail
  rw [← hw1]
  clear hw1
  go_region_held3 (fun V => FS cb rb cap a b x V) (first | with_reducible assumption | exact ⟨d17, d19, d20, d8⟩ | exact FS.set (by with_reducible assumption) (by with_reducible assumption) _ _)
    ((go_at_call 280; with_reducible refine Calls.mono (HP.out ()) ?_; rintro e w2 ⟨rfl, ⟨u2, k1⟩, k2, ⟨e1, e2, e3, e4⟩, HQ, HC⟩; have e5 : FS cb rb cap a b x w2 := ⟨e1, e2, e3, e4⟩))
  all_goals
    go_wp2_with fail
    first | go_end0 | refine bodyPost_ret (results_none rfl _ _ _) rfl ?_
    first | exact ⟨rfl, HQ, HC⟩ | (rw [wi64]; exact ⟨rfl, HQ, HC⟩)
end Go.Proofs.YtaeapikhhbjlnaaGreatDoor
/- PARTS: the document's Merge, its memory. Own work of the verifier. -/
namespace Go.Proofs.YtaeapikhhbjlnaaGreatDoor
open Go.RowKit

abbrev rpart (hi lo : Int) (v : Value) (n s c mn mx : Nat) : Value := .agg #[.int .i64 hi, .int .u64 lo, v, .int .u64 (n : Int), .int .u64 (s : Int), .int .u64 (c : Int), .int .u64 (mn : Int), .int .u64 (mx : Int)]
theorem eight_cells {W : World} {b : Nat} {u0 u1 u2 u3 u4 u5 u6 u7 : Value} {t : TypeId} (h : Hid (W.heap[b]? = some (.cells #[u0, u1, u2, u3, u4, u5, u6, u7] t (0, 0)))) : W.cell? ⟨b, 0, none⟩ = some u0 ∧ W.cell? ⟨b, 1, none⟩ = some u1 ∧ W.cell? ⟨b, 2, none⟩ = some u2 ∧ W.cell? ⟨b, 3, none⟩ = some u3 ∧ W.cell? ⟨b, 4, none⟩ = some u4 ∧ W.cell? ⟨b, 5, none⟩ = some u5 ∧ W.cell? ⟨b, 6, none⟩ = some u6 ∧ W.cell? ⟨b, 7, none⟩ = some u7 := by
  unfold Hid at h; simp [World.cell?, h]
theorem eight_fr {W : World} {b : Nat} {u0 u1 u2 u3 u4 u5 u6 u7 : Value} {t : TypeId} (h : Hid (W.heap[b]? = some (.cells #[u0, u1, u2, u3, u4, u5, u6, u7] t (0, 0)))) : W.frozen? ⟨b, 0, none⟩ = false ∧ W.frozen? ⟨b, 1, none⟩ = false ∧ W.frozen? ⟨b, 2, none⟩ = false ∧ W.frozen? ⟨b, 3, none⟩ = false ∧ W.frozen? ⟨b, 4, none⟩ = false ∧ W.frozen? ⟨b, 5, none⟩ = false ∧ W.frozen? ⟨b, 6, none⟩ = false ∧ W.frozen? ⟨b, 7, none⟩ = false :=
  ⟨hid_fr h 0, hid_fr h 1, hid_fr h 2, hid_fr h 3, hid_fr h 4, hid_fr h 5, hid_fr h 6, hid_fr h 7⟩
def put8 (W : World) (b : Nat) (v0 v1 v2 v3 v4 v5 v6 v7 : Value) : World := (((((((W.setCell ⟨b, 0, none⟩ v0).setCell ⟨b, 1, none⟩ v1).setCell ⟨b, 2, none⟩ v2).setCell ⟨b, 3, none⟩ v3).setCell ⟨b, 4, none⟩ v4).setCell ⟨b, 5, none⟩ v5).setCell ⟨b, 6, none⟩ v6).setCell ⟨b, 7, none⟩ v7
theorem put8_eq (W : World) (b : Nat) (v0 v1 v2 v3 v4 v5 v6 v7 : Value) : (((((((W.setCell ⟨b, 0, none⟩ v0).setCell ⟨b, 1, none⟩ v1).setCell ⟨b, 2, none⟩ v2).setCell ⟨b, 3, none⟩ v3).setCell ⟨b, 4, none⟩ v4).setCell ⟨b, 5, none⟩ v5).setCell ⟨b, 6, none⟩ v6).setCell ⟨b, 7, none⟩ v7 = put8 W b v0 v1 v2 v3 v4 v5 v6 v7 := rfl
set_option maxHeartbeats 8000000 in
theorem set_eight {W : World} {b : Nat} {u0 u1 u2 u3 u4 u5 u6 u7 v0 v1 v2 v3 v4 v5 v6 v7 : Value} {t : TypeId} (h : W.heap[b]? = some (.cells #[u0, u1, u2, u3, u4, u5, u6, u7] t (0, 0))) : (put8 W b v0 v1 v2 v3 v4 v5 v6 v7).heap[b]? = some (.cells #[v0, v1, v2, v3, v4, v5, v6, v7] t (0, 0)) := by
  unfold put8
  rw [heap_setCell_same _ b 7 _ _ _ (heap_setCell_same _ b 6 _ _ _ (heap_setCell_same _ b 5 _ _ _ (heap_setCell_same _ b 4 _ _ _ (heap_setCell_same _ b 3 _ _ _ (heap_setCell_same _ b 2 _ _ _ (heap_setCell_same _ b 1 _ _ _ (heap_setCell_same _ b 0 _ _ _ (h))))))))]; rfl
set_option maxHeartbeats 4000000 in
theorem mid_put8 (W : World) (k : Nat) (v0 v1 v2 v3 v4 v5 v6 v7 : Value) : Mid k (k + 1) W (put8 W k v0 v1 v2 v3 v4 v5 v6 v7) := by
  have hk : (k ≤ k ∧ k < k + 1) ∨ W.heap.size ≤ k := Or.inl ⟨Nat.le_refl _, Nat.lt_succ_self _⟩
  unfold put8
  exact (((((((((Mid.refl k (k + 1) W)).setCell (p := ⟨k, 0, none⟩) hk _).setCell (p := ⟨k, 1, none⟩) hk _).setCell (p := ⟨k, 2, none⟩) hk _).setCell (p := ⟨k, 3, none⟩) hk _).setCell (p := ⟨k, 4, none⟩) hk _).setCell (p := ⟨k, 5, none⟩) hk _).setCell (p := ⟨k, 6, none⟩) hk _).setCell (p := ⟨k, 7, none⟩) hk _
/-- Both parts, the document's, and all that was there. -/
abbrev MT (B : Nat) (ah al bh bl : Int) (a1 a2 : Option Addr) (m1 c1 m2 c2 n n' s c u d mn mx mn' mx' : Nat) (w3 W : World) : Prop := W.cell? ⟨B, 0, none⟩ = some (.int .i64 ah) ∧ W.cell? ⟨B, 1, none⟩ = some (.int .u64 al) ∧ W.cell? ⟨B, 2, none⟩ = some (.slice a1 m1 c1) ∧ W.cell? ⟨B, 3, none⟩ = some (.int .u64 (n : Int)) ∧ W.cell? ⟨B, 4, none⟩ = some (.int .u64 (s : Int)) ∧ W.cell? ⟨B, 5, none⟩ = some (.int .u64 (c : Int)) ∧ W.cell? ⟨B, 6, none⟩ = some (.int .u64 (mn : Int)) ∧ W.cell? ⟨B, 7, none⟩ = some (.int .u64 (mx : Int)) ∧ W.cell? ⟨B + 1, 0, none⟩ = some (.int .i64 bh) ∧ W.cell? ⟨B + 1, 1, none⟩ = some (.int .u64 bl) ∧ W.cell? ⟨B + 1, 2, none⟩ = some (.slice a2 m2 c2) ∧ W.cell? ⟨B + 1, 3, none⟩ = some (.int .u64 (n' : Int)) ∧ W.cell? ⟨B + 1, 4, none⟩ = some (.int .u64 (u : Int)) ∧ W.cell? ⟨B + 1, 5, none⟩ = some (.int .u64 (d : Int)) ∧ W.cell? ⟨B + 1, 6, none⟩ = some (.int .u64 (mn' : Int)) ∧ W.cell? ⟨B + 1, 7, none⟩ = some (.int .u64 (mx' : Int)) ∧ Below w3.heap.size w3 W
theorem mt_of {B : Nat} {ah al bh bl : Int} {a1 a2 : Option Addr} {m1 c1 m2 c2 n n' s c u d mn mx mn' mx' : Nat} {w3 W : World} (h0 : w3.heap[B]? = some (.cells #[.int .i64 ah, .int .u64 al, .slice a1 m1 c1, .int .u64 (n : Int), .int .u64 (s : Int), .int .u64 (c : Int), .int .u64 (mn : Int), .int .u64 (mx : Int)] 130 (0, 0))) (h1 : w3.heap[B + 1]? = some (.cells #[.int .i64 bh, .int .u64 bl, .slice a2 m2 c2, .int .u64 (n' : Int), .int .u64 (u : Int), .int .u64 (d : Int), .int .u64 (mn' : Int), .int .u64 (mx' : Int)] 130 (0, 0))) (hb : Below w3.heap.size w3 W) : MT B ah al bh bl a1 a2 m1 c1 m2 c2 n n' s c u d mn mx mn' mx' w3 W := by
  have k0 : Hid (W.heap[B]? = some _) := hid_below h0 hb (Array.getElem?_eq_some_iff.1 h0).1
  have k1 : Hid (W.heap[B + 1]? = some _) := hid_below h1 hb (Array.getElem?_eq_some_iff.1 h1).1
  obtain ⟨a10, a11, a12, a13, a14, a15, a16, a17⟩ := eight_cells k0
  obtain ⟨b10, b11, b12, b13, b14, b15, b16, b17⟩ := eight_cells k1
  exact ⟨a10, a11, a12, a13, a14, a15, a16, a17, b10, b11, b12, b13, b14, b15, b16, b17, hb⟩
theorem MT.b {B : Nat} {ah al bh bl : Int} {a1 a2 : Option Addr} {m1 c1 m2 c2 n n' s c u d mn mx mn' mx' : Nat} {w3 W : World} (h : MT B ah al bh bl a1 a2 m1 c1 m2 c2 n n' s c u d mn mx mn' mx' w3 W) : Below w3.heap.size w3 W := by
  obtain ⟨a10, a11, a12, a13, a14, a15, a16, a17, b10, b11, b12, b13, b14, b15, b16, b17, hb⟩ := h
  exact hb
theorem MT.kept {B : Nat} {ah al bh bl : Int} {a1 a2 : Option Addr} {m1 c1 m2 c2 n n' s c u d mn mx mn' mx' : Nat} {w3 W : World} {W' : World} (h : MT B ah al bh bl a1 a2 m1 c1 m2 c2 n n' s c u d mn mx mn' mx' w3 W) (k : Below W.heap.size W W') : MT B ah al bh bl a1 a2 m1 c1 m2 c2 n n' s c u d mn mx mn' mx' w3 W' := by
  obtain ⟨a10, a11, a12, a13, a14, a15, a16, a17, b10, b11, b12, b13, b14, b15, b16, b17, hb⟩ := h
  exact ⟨cell_kept k a10, cell_kept k a11, cell_kept k a12, cell_kept k a13, cell_kept k a14, cell_kept k a15, cell_kept k a16, cell_kept k a17, cell_kept k b10, cell_kept k b11, cell_kept k b12, cell_kept k b13, cell_kept k b14, cell_kept k b15, cell_kept k b16, cell_kept k b17, bt hb k⟩
theorem MT.drew {B : Nat} {ah al bh bl : Int} {a1 a2 : Option Addr} {m1 c1 m2 c2 n n' s c u d mn mx mn' mx' : Nat} {w3 W : World} (h : MT B ah al bh bl a1 a2 m1 c1 m2 c2 n n' s c u d mn mx mn' mx' w3 W) : MT B ah al bh bl a1 a2 m1 c1 m2 c2 n n' s c u d mn mx mn' mx' w3 W.drew := h.kept (Below.refl _ _).drew
theorem sg_lt {a b : Nat} : Pr.sg a b < 0 ↔ a < b := by unfold Pr.sg; split <;> (try split) <;> omega
theorem sg_neg1 {a b : Nat} : Pr.sg a b = -1 ↔ a < b := by unfold Pr.sg; split <;> (try split) <;> omega
theorem sg_one {a b : Nat} : Pr.sg a b = 1 ↔ b < a := by unfold Pr.sg; split <;> (try split) <;> omega
/-- Where the document lays its sum out. -/
def PZ (w3 : World) (k : Nat) (W : World) : Prop := W.heap[k]? = some (.cells #[.int .i64 0, .int .u64 0, .slice none 0 0, .int .u64 0, .int .u64 0, .int .u64 0, .int .u64 0, .int .u64 0] 130 (0, 0)) ∧ w3.heap.size ≤ k
theorem pz_step {w3 W W' : World} {k : Nat} (h : Hid (PZ w3 k W)) (hb : Below W.heap.size W W') : Hid (PZ w3 k W') := ⟨by rw [hb.block k (Array.getElem?_eq_some_iff.1 h.out.1).1]; exact h.out.1, h.out.2⟩
theorem pz_new {w3 V W' : World} (hs : w3.heap.size ≤ V.heap.size) (hb : Below (V.alloc (.cells #[.int .i64 0, .int .u64 0, .slice none 0 0, .int .u64 0, .int .u64 0, .int .u64 0, .int .u64 0, .int .u64 0] 130)).heap.size (V.alloc (.cells #[.int .i64 0, .int .u64 0, .slice none 0 0, .int .u64 0, .int .u64 0, .int .u64 0, .int .u64 0, .int .u64 0] 130)) W') : Hid (PZ w3 V.heap.size W') := ⟨by rw [hb.block V.heap.size (by simp)]; exact new_1 V _, hs⟩
theorem below_undrew {X W' : World} (hb : Below X.drew.heap.size X.drew W') : Below X.heap.size X W' := ⟨hb.os, hb.tape, hb.output, hb.size, hb.block⟩
theorem pz_newd {w3 V W' : World} (hs : w3.heap.size ≤ V.heap.size) (hb : Below (V.alloc (.cells #[.int .i64 0, .int .u64 0, .slice none 0 0, .int .u64 0, .int .u64 0, .int .u64 0, .int .u64 0, .int .u64 0] 130)).drew.heap.size (V.alloc (.cells #[.int .i64 0, .int .u64 0, .slice none 0 0, .int .u64 0, .int .u64 0, .int .u64 0, .int .u64 0, .int .u64 0] 130)).drew W') : Hid (PZ w3 V.heap.size W') := pz_new hs (below_undrew hb)
theorem pz_h {w3 W : World} {k : Nat} (h : Hid (PZ w3 k W)) : Hid (W.heap[k]? = some (.cells #[.int .i64 0, .int .u64 0, .slice none 0 0, .int .u64 0, .int .u64 0, .int .u64 0, .int .u64 0, .int .u64 0] 130 (0, 0))) := h.out.1
theorem pz_c0 {w3 W : World} {k : Nat} (h : Hid (PZ w3 k W)) : W.cell? ⟨k, 0, none⟩ = some (.int .i64 0) := (eight_cells (pz_h h)).1
theorem pz_c1 {w3 W : World} {k : Nat} (h : Hid (PZ w3 k W)) : W.cell? ⟨k, 1, none⟩ = some (.int .u64 0) := (eight_cells (pz_h h)).2.1
theorem pz_c2 {w3 W : World} {k : Nat} (h : Hid (PZ w3 k W)) : W.cell? ⟨k, 2, none⟩ = some (.slice none 0 0) := (eight_cells (pz_h h)).2.2.1
theorem pz_c3 {w3 W : World} {k : Nat} (h : Hid (PZ w3 k W)) : W.cell? ⟨k, 3, none⟩ = some (.int .u64 0) := (eight_cells (pz_h h)).2.2.2.1
theorem pz_c4 {w3 W : World} {k : Nat} (h : Hid (PZ w3 k W)) : W.cell? ⟨k, 4, none⟩ = some (.int .u64 0) := (eight_cells (pz_h h)).2.2.2.2.1
theorem pz_c5 {w3 W : World} {k : Nat} (h : Hid (PZ w3 k W)) : W.cell? ⟨k, 5, none⟩ = some (.int .u64 0) := (eight_cells (pz_h h)).2.2.2.2.2.1
theorem pz_c6 {w3 W : World} {k : Nat} (h : Hid (PZ w3 k W)) : W.cell? ⟨k, 6, none⟩ = some (.int .u64 0) := (eight_cells (pz_h h)).2.2.2.2.2.2.1
theorem pz_c7 {w3 W : World} {k : Nat} (h : Hid (PZ w3 k W)) : W.cell? ⟨k, 7, none⟩ = some (.int .u64 0) := (eight_cells (pz_h h)).2.2.2.2.2.2.2
theorem pz_f0 {w3 W : World} {k : Nat} (h : Hid (PZ w3 k W)) : W.frozen? ⟨k, 0, none⟩ = false := hid_fr (pz_h h) 0
theorem pz_f1 {w3 W : World} {k : Nat} (h : Hid (PZ w3 k W)) : W.frozen? ⟨k, 1, none⟩ = false := hid_fr (pz_h h) 1
theorem pz_f2 {w3 W : World} {k : Nat} (h : Hid (PZ w3 k W)) : W.frozen? ⟨k, 2, none⟩ = false := hid_fr (pz_h h) 2
theorem pz_f3 {w3 W : World} {k : Nat} (h : Hid (PZ w3 k W)) : W.frozen? ⟨k, 3, none⟩ = false := hid_fr (pz_h h) 3
theorem pz_f4 {w3 W : World} {k : Nat} (h : Hid (PZ w3 k W)) : W.frozen? ⟨k, 4, none⟩ = false := hid_fr (pz_h h) 4
theorem pz_f5 {w3 W : World} {k : Nat} (h : Hid (PZ w3 k W)) : W.frozen? ⟨k, 5, none⟩ = false := hid_fr (pz_h h) 5
theorem pz_f6 {w3 W : World} {k : Nat} (h : Hid (PZ w3 k W)) : W.frozen? ⟨k, 6, none⟩ = false := hid_fr (pz_h h) 6
theorem pz_f7 {w3 W : World} {k : Nat} (h : Hid (PZ w3 k W)) : W.frozen? ⟨k, 7, none⟩ = false := hid_fr (pz_h h) 7
theorem MT.sput {B : Nat} {ah al bh bl : Int} {a1 a2 : Option Addr} {m1 c1 m2 c2 n n' s c u d mn mx mn' mx' : Nat} {w3 W : World} {k : Nat} (h : MT B ah al bh bl a1 a2 m1 c1 m2 c2 n n' s c u d mn mx mn' mx' w3 W) (hi3 : B + 1 + 1 < w3.heap.size) (hk : w3.heap.size ≤ k) (v0 v1 v2 v3 v4 v5 v6 v7 : Value) : MT B ah al bh bl a1 a2 m1 c1 m2 c2 n n' s c u d mn mx mn' mx' w3 (put8 W k v0 v1 v2 v3 v4 v5 v6 v7) := by
  obtain ⟨a10, a11, a12, a13, a14, a15, a16, a17, b10, b11, b12, b13, b14, b15, b16, b17, hb⟩ := h
  have hm := mid_put8 W k v0 v1 v2 v3 v4 v5 v6 v7
  have kc : ∀ (a : Addr) (x : Value), a.block < w3.heap.size → W.cell? a = some x → (put8 W k v0 v1 v2 v3 v4 v5 v6 v7).cell? a = some x := fun a x ha hx => (World.cell?_of_block (hm.block a.block (lt_of_cell hx) (by omega))).trans hx
  have l0 : B < w3.heap.size := by omega
  have l1 : B + 1 < w3.heap.size := by omega
  exact ⟨kc _ _ l0 a10, kc _ _ l0 a11, kc _ _ l0 a12, kc _ _ l0 a13, kc _ _ l0 a14, kc _ _ l0 a15, kc _ _ l0 a16, kc _ _ l0 a17, kc _ _ l1 b10, kc _ _ l1 b11, kc _ _ l1 b12, kc _ _ l1 b13, kc _ _ l1 b14, kc _ _ l1 b15, kc _ _ l1 b16, kc _ _ l1 b17, ⟨hm.os.trans hb.os, hm.tape.trans hb.tape, hm.output.trans hb.output, Nat.le_trans hb.size hm.size, fun j hj => (hm.block j (Nat.lt_of_lt_of_le hj hb.size) (by omega)).trans (hb.block j hj)⟩⟩
theorem MT.allocd {B : Nat} {ah al bh bl : Int} {a1 a2 : Option Addr} {m1 c1 m2 c2 n n' s c u d mn mx mn' mx' : Nat} {w3 W : World} (h : MT B ah al bh bl a1 a2 m1 c1 m2 c2 n n' s c u d mn mx mn' mx' w3 W) (o : Obj) : MT B ah al bh bl a1 a2 m1 c1 m2 c2 n n' s c u d mn mx mn' mx' w3 (W.alloc o).drew := (h.kept (bel1 _ _)).drew
theorem MT.chain {B : Nat} {ah al bh bl : Int} {a1 a2 : Option Addr} {m1 c1 m2 c2 n n' s c u d mn mx mn' mx' : Nat} {w3 W : World} {k : Nat} (h : MT B ah al bh bl a1 a2 m1 c1 m2 c2 n n' s c u d mn mx mn' mx' w3 W) (hi3 : B + 1 + 1 < w3.heap.size) (hp : Hid (PZ w3 k W)) (v0 v1 v2 v3 v4 v5 v6 v7 : Value) : MT B ah al bh bl a1 a2 m1 c1 m2 c2 n n' s c u d mn mx mn' mx' w3 ((((((((W.setCell ⟨k, 0, none⟩ v0).setCell ⟨k, 1, none⟩ v1).setCell ⟨k, 2, none⟩ v2).setCell ⟨k, 3, none⟩ v3).setCell ⟨k, 4, none⟩ v4).setCell ⟨k, 5, none⟩ v5).setCell ⟨k, 6, none⟩ v6).setCell ⟨k, 7, none⟩ v7) :=
  MT.sput h hi3 hp.out.2 v0 v1 v2 v3 v4 v5 v6 v7
/-- What stands behind the document's first sums. -/
structure RQ (B : Nat) (w w3 : World) (pk : Nat) (cs : Array Value) (v : Value) (O : List Cn) (W : World) : Prop where
  prt : W.heap[pk]? = some (.cells cs 130 (0, 0))
  res : W.heap[B + 1 + 1]? = some (.cells #[.int .i64 0, .int .u64 0, .slice none 0 0, .int .u64 0, .int .u64 0, .int .u64 0, .int .u64 0, .int .u64 0] 130 (0, 0))
  ge : w3.heap.size ≤ pk
  bel : Below w3.heap.size w3 W
  own : W.ownsRow w3.heap.size 222 2 v O.length (fl O)
  ne : v.ownBlock ≠ some pk
theorem own_ne {B n pk : Nat} {w w' : World} {v : Value} {xs : List Value} (h : w.ownsRow B 222 2 v n xs) (hm : Mid pk (pk + 1) w w') (hne : v.ownBlock ≠ some pk) : w'.ownsRow B 222 2 v n xs := by
  refine ⟨h.1, ?_⟩
  rcases h.2 with k | ⟨g, cap, cur, hv, hg, hh, hrest⟩
  · exact Or.inl k
  · refine Or.inr ⟨g, cap, cur, hv, hg, (hm.block g (Array.getElem?_eq_some_iff.1 hh).1 (fun c => hne ?_)).trans hh, hrest⟩
    rw [hv]
    show some g = some pk
    rw [show g = pk by omega]
/-- The sum's block was made last. -/
theorem rq_last {B : Nat} {w w3 V w5 w6 : World} {cs : Array Value} {v : Value} {O : List Cn} (hg2 : w3.heap[B + 1 + 1]? = some (.cells #[.int .i64 0, .int .u64 0, .slice none 0 0, .int .u64 0, .int .u64 0, .int .u64 0, .int .u64 0, .int .u64 0] 130 (0, 0))) (hb : Below w3.heap.size w3 w6) (hG : GC V.heap.size V v O w5 ∧ w3.heap.size ≤ V.heap.size) (h6 : Below w5.heap.size w5 w6) : RQ B w w3 w6.heap.size cs v O (w6.alloc (.cells cs 130)) := by
  have hl := (Array.getElem?_eq_some_iff.1 hg2).1
  have ho := own_le (own_keep hG.1.own h6) hG.2
  refine ⟨new_1 w6 _, ?_, hb.size, hb.trans ((bel1 w6 _).mono hb.size), own_keep ho (bel1 w6 _), fun e => ?_⟩
  · rw [(bel1 w6 _).block _ (Nat.lt_of_lt_of_le hl hb.size), hb.block _ hl]; exact hg2
  · have := (ho.lt _ e).2; omega
/-- .. ahead of the counts' merge, or between. -/
theorem rq_put {B : Nat} {w w3 w6 : World} {pk : Nat} {v0 v1 v2 v3 v4 v5 v6 v7 : Value} {v : Value} {O : List Cn} (hg2 : w3.heap[B + 1 + 1]? = some (.cells #[.int .i64 0, .int .u64 0, .slice none 0 0, .int .u64 0, .int .u64 0, .int .u64 0, .int .u64 0, .int .u64 0] 130 (0, 0))) (hb : Below w3.heap.size w3 w6) (hp : Hid (PZ w3 pk w6)) (ho : w6.ownsRow w3.heap.size 222 2 v O.length (fl O)) (hne : v.ownBlock ≠ some pk) : RQ B w w3 pk #[v0, v1, v2, v3, v4, v5, v6, v7] v O (put8 w6 pk v0 v1 v2 v3 v4 v5 v6 v7) := by
  have hl := (Array.getElem?_eq_some_iff.1 hg2).1
  have hm := mid_put8 w6 pk v0 v1 v2 v3 v4 v5 v6 v7
  have hk := hp.out.2
  refine ⟨set_eight hp.out.1, ?_, hk, ⟨hm.os.trans hb.os, hm.tape.trans hb.tape, hm.output.trans hb.output, Nat.le_trans hb.size hm.size, fun j hj => (hm.block j (Nat.lt_of_lt_of_le hj hb.size) (by omega)).trans (hb.block j hj)⟩, own_ne ho hm hne, hne⟩
  rw [hm.block _ (Nat.lt_of_lt_of_le hl hb.size) (by omega), hb.block _ hl]; exact hg2
theorem rq_before {B : Nat} {w w3 V w5 w6 : World} {pk : Nat} {v0 v1 v2 v3 v4 v5 v6 v7 : Value} {v : Value} {O : List Cn} (hg2 : w3.heap[B + 1 + 1]? = some (.cells #[.int .i64 0, .int .u64 0, .slice none 0 0, .int .u64 0, .int .u64 0, .int .u64 0, .int .u64 0, .int .u64 0] 130 (0, 0))) (hb : Below w3.heap.size w3 w6) (hp : Hid (PZ w3 pk w6)) (hG : GC V.heap.size V v O w5 ∧ w3.heap.size ≤ V.heap.size) (h6 : Below w5.heap.size w5 w6) (hV : pk < V.heap.size) : RQ B w w3 pk #[v0, v1, v2, v3, v4, v5, v6, v7] v O (put8 w6 pk v0 v1 v2 v3 v4 v5 v6 v7) :=
  rq_put hg2 hb hp (own_le (own_keep hG.1.own h6) hG.2) (fun e => by have := (hG.1.own.lt _ e).1; omega)
theorem rq_between {B : Nat} {w w3 V w5 w6 : World} {pk : Nat} {v0 v1 v2 v3 v4 v5 v6 v7 : Value} {v : Value} {O : List Cn} (hg2 : w3.heap[B + 1 + 1]? = some (.cells #[.int .i64 0, .int .u64 0, .slice none 0 0, .int .u64 0, .int .u64 0, .int .u64 0, .int .u64 0, .int .u64 0] 130 (0, 0))) (hb : Below w3.heap.size w3 w6) (hp : Hid (PZ w3 pk w6)) (hG : GC V.heap.size V v O w5 ∧ w3.heap.size ≤ V.heap.size) (h6 : Below w5.heap.size w5 w6) (hV : w5.heap.size ≤ pk) : RQ B w w3 pk #[v0, v1, v2, v3, v4, v5, v6, v7] v O (put8 w6 pk v0 v1 v2 v3 v4 v5 v6 v7) :=
  rq_put hg2 hb hp (own_le (own_keep hG.1.own h6) hG.2) (fun e => by have := (hG.1.own.lt _ e).2; omega)
theorem pz_lt {w3 W : World} {k : Nat} (h : Hid (PZ w3 k W)) : k < W.heap.size := (Array.getElem?_eq_some_iff.1 h.out.1).1
theorem rq_set6 {B : Nat} {w w3 W : World} {pk : Nat} {v0 v1 v2 v3 v4 v5 v6 v7 x : Value} {v : Value} {O : List Cn} (hi3 : B + 1 + 1 < w3.heap.size) (h : Hid (RQ B w w3 pk #[v0, v1, v2, v3, v4, v5, v6, v7] v O W)) : Hid (RQ B w w3 pk #[v0, v1, v2, v3, v4, v5, x, v7] v O (W.setCell ⟨pk, 6, none⟩ x)) := by
  have hm : Mid pk (pk + 1) W (W.setCell ⟨pk, 6, none⟩ x) := (Mid.refl pk (pk + 1) W).setCell (p := ⟨pk, 6, none⟩) (Or.inl ⟨Nat.le_refl _, Nat.lt_succ_self _⟩) _
  have hk := h.out.ge
  have hb := h.out.bel
  refine ⟨by rw [heap_setCell_same _ pk 6 _ _ _ h.out.prt]; rfl, ?_, hk, ⟨hm.os.trans hb.os, hm.tape.trans hb.tape, hm.output.trans hb.output, Nat.le_trans hb.size hm.size, fun j hj => (hm.block j (Nat.lt_of_lt_of_le hj hb.size) (by omega)).trans (hb.block j hj)⟩, own_ne h.out.own hm h.out.ne, h.out.ne⟩
  rw [hm.block _ (Nat.lt_of_lt_of_le hi3 hb.size) (by omega)]; exact h.out.res
theorem rq_set7 {B : Nat} {w w3 W : World} {pk : Nat} {v0 v1 v2 v3 v4 v5 v6 v7 x : Value} {v : Value} {O : List Cn} (hi3 : B + 1 + 1 < w3.heap.size) (h : Hid (RQ B w w3 pk #[v0, v1, v2, v3, v4, v5, v6, v7] v O W)) : Hid (RQ B w w3 pk #[v0, v1, v2, v3, v4, v5, v6, x] v O (W.setCell ⟨pk, 7, none⟩ x)) := by
  have hm : Mid pk (pk + 1) W (W.setCell ⟨pk, 7, none⟩ x) := (Mid.refl pk (pk + 1) W).setCell (p := ⟨pk, 7, none⟩) (Or.inl ⟨Nat.le_refl _, Nat.lt_succ_self _⟩) _
  have hk := h.out.ge
  have hb := h.out.bel
  refine ⟨by rw [heap_setCell_same _ pk 7 _ _ _ h.out.prt]; rfl, ?_, hk, ⟨hm.os.trans hb.os, hm.tape.trans hb.tape, hm.output.trans hb.output, Nat.le_trans hb.size hm.size, fun j hj => (hm.block j (Nat.lt_of_lt_of_le hj hb.size) (by omega)).trans (hb.block j hj)⟩, own_ne h.out.own hm h.out.ne, h.out.ne⟩
  rw [hm.block _ (Nat.lt_of_lt_of_le hi3 hb.size) (by omega)]; exact h.out.res
theorem rq_done {B : Nat} {w w3 W : World} {pk : Nat} {cs : Array Value} {v : Value} {O : List Cn} (hi3 : B + 1 + 1 < w3.heap.size) (hB : Hid (w.heap.size = B)) (hb3 : Hid (Below B w w3)) (h : Hid (RQ B w w3 pk cs v O W)) (v0 v1 v2 v3 v4 v5 v6 v7 : Value) : Hid (GC w.heap.size w v O (put8 W (B + 1 + 1) v0 v1 v2 v3 v4 v5 v6 v7)) := by
  have hm := mid_put8 W (B + 1 + 1) v0 v1 v2 v3 v4 v5 v6 v7
  have hb := h.out.bel
  have h3 := hb3.out
  have e := hB.out
  refine ⟨own_le (own_ne h.out.own hm (fun e' => by have := (h.out.own.lt _ e').1; omega)) (by omega), ?_, by have := hm.size; have := hb.size; omega⟩
  rw [e]
  exact ⟨(hm.os.trans hb.os).trans h3.os, (hm.tape.trans hb.tape).trans h3.tape, (hm.output.trans hb.output).trans h3.output, by have := hm.size; have := hb.size; have := h3.size; omega, fun j hj => (hm.block j (by have := hb.size; omega) (by omega)).trans ((hb.block j (by omega)).trans (h3.block j hj))⟩
theorem ends_t {n n' a b x y : Nat} (h : (decide (n = 0) || (!decide (n' = 0) && decide (a < b))) = true) : (if n = 0 then x else if n' = 0 then y else if a < b then x else y) = x := by
  simp only [Bool.or_eq_true, Bool.and_eq_true, Bool.not_eq_true', decide_eq_true_eq, decide_eq_false_iff_not] at h
  split
  · rfl
  · split
    · omega
    · split
      · rfl
      · omega
theorem ends_f {n n' a b x y : Nat} (h : (decide (n = 0) || (!decide (n' = 0) && decide (a < b))) = false) : (if n = 0 then x else if n' = 0 then y else if a < b then x else y) = y := by
  rw [← Bool.not_eq_true] at h
  simp only [Bool.or_eq_true, Bool.and_eq_true, Bool.not_eq_true', decide_eq_true_eq, decide_eq_false_iff_not] at h
  split
  · omega
  · split
    · rfl
    · split
      · omega
      · rfl
/-- What is told. -/
def MdR (W : World) (T1 T0 : Int) (N E0 E1 r q : Nat) (L : List Cn) (e : Ending) (w' : World) : Prop := ∃ v'' O, e = .returned (rpart T1 T0 v'' N r q E0 E1) ∧ IsMerge O L ∧ GC W.heap.size W v'' O w'
end Go.Proofs.YtaeapikhhbjlnaaGreatDoor
