/- THE DOCUMENT's MACHINE: the last step of a summary. Own work of the verifier. -/
import Derived.Test.YtaeapikhhbjlnaaGreatDoorZBC
import Derived.Test.YtaeapikhhbjlnaaGreatDoorZBE
namespace Go.Proofs.YtaeapikhhbjlnaaGreatDoor
open Go.RowKit

set_option maxRecDepth 10000 in
set_option maxHeartbeats 4000000 in
theorem float_10 (cb mb rb : Nat) (c : Cl) (m : Mc) (k : Int) (s cc mn mx cap : Nat) (w : World) (H : Dst cb mb rb c m (sRow k s cc mn mx) w) (ha : c.at_ = 10) (ht : c.tov = .slice (some ⟨rb, 0, none⟩) 5 cap) (x : Nat) (h3 : c.f = (x : Int)) (_hx : x < 18446744073709551616) (_hmn : mn < 18446744073709551616) (_hmx : mx < 18446744073709551616) :
    Calls Tryz.prog 250 #[.pointer (some ⟨cb, 0, none⟩)] w fun e w' => e = .returned (.tuple #[]) ∧ Hid (Dst cb mb rb { c with at_ := 99 } m (sRow k s cc mn x) w') ∧ Hid (Chg (D3 cb mb rb) w w') := by
  obtain ⟨a1, a2, a3, a4, a5, a6⟩ := H.ne
  have c9 : w.cell? ⟨cb, 9, none⟩ = some (.int .i64 10) := H.cc 9 _ (by rw [← ha]; rfl)
  have c17 : w.cell? ⟨cb, 17, none⟩ = some (.slice (some ⟨rb, 0, none⟩) 5 cap) := H.cc 17 _ (by rw [← ht]; rfl)
  have f9 := H.cf 9
  have H1 := H.putC 9 (.int .i64 11) { c with at_ := 11 } rfl
  obtain ⟨w1, hw1⟩ : ∃ w1, w1 = w.setCell ⟨cb, 9, none⟩ (.int .i64 11) := ⟨_, rfl⟩
  have hc1 : Chg (D3 cb mb rb) w w1 := by rw [hw1]; exact d3_c (Chg.refl _ _) _ _
  rw [← hw1] at H1
  have d9 : w1.cell? ⟨cb, 9, none⟩ = some (.int .i64 11) := H1.cc 9 _ rfl
  have g9 := H1.cf 9
  have d17 : w1.cell? ⟨cb, 17, none⟩ = some (.slice (some ⟨rb, 0, none⟩) 5 cap) := H1.cc 17 _ (by rw [← ht]; rfl)
  have d8 : w1.cell? ⟨cb, 8, none⟩ = some (.int .u64 (x : Int)) := H1.cc 8 _ (by rw [← h3]; rfl)
  have d4 : w1.cell? ⟨rb, 4, none⟩ = some (.int .i64 (fw64 mx)) := H1.rr 4 _ rfl
  have g4 := H1.rf 4
  obtain ⟨y, hy⟩ : ∃ y, y = fw64 x := ⟨_, rfl⟩
  have hy2 : IntKind.i64.wrap (x : Int) = y := by rw [wi64, hy]; rfl
  have hy3 : wrap64 (x : Int) = y := by rw [hy]; rfl
  have HQ : Hid (Dst cb mb rb { c with at_ := 99 } m (sRow k s cc mn x) ((w1.drew.setCell ⟨rb, 4, none⟩ (.int .i64 y)).setCell ⟨cb, 9, none⟩ (.int .i64 99))) := by
    have h4 := H1.drew.putR 4 y
    rw [show (sRow k s cc mn mx).set 4 y = sRow k s cc mn x by rw [hy]; exact sRow_4 _ _ _ _ _ _] at h4
    exact h4.putC 9 (.int .i64 99) { c with at_ := 99 } rfl
  have HC : Hid (Chg (D3 cb mb rb) w ((w1.drew.setCell ⟨rb, 4, none⟩ (.int .i64 y)).setCell ⟨cb, 9, none⟩ (.int .i64 99))) := d3_c (d3_r hc1.drew _ _) _ _
  clear hy
  clear H H1 ha ht h3 _hx _hmn _hmx hc1
  generalize fw64 mx = z at *
  go_enter Tryz.func250, Tryz.ntmps250
  go_upto_region 2 with fail
  rw [← hw1]
  clear hw1
  go_region
  all_goals
    go_wp2_with fail
    first | go_end0 | refine bodyPost_ret (results_none rfl _ _ _) rfl ?_
    first | exact ⟨rfl, HQ, HC⟩ | (rw [wi64]; exact ⟨rfl, HQ, HC⟩)
end Go.Proofs.YtaeapikhhbjlnaaGreatDoor
/- THE DOCUMENT's MACHINE: why a record is refused. Own work of the verifier. -/
namespace Go.Proofs.YtaeapikhhbjlnaaGreatDoor
open Go.RowKit

/-- The kind of the instrument that a call is for. -/
def kdOf (k : Int) : Int := if k = 4 then 1 else if k = 5 then 2 else 3
/-- What a record finds: the recorder, the instrument. -/
structure Env (ib id nI capI : Nat) (kd st : Int) (cl : Bool) (c : Cl) (m : Mc) (w : World) : Prop where
  x0 : w.cell? ⟨c.x, 0, none⟩ = some (.int .i64 st)
  x1 : w.cell? ⟨c.x, 1, none⟩ = some (.bool cl)
  l : m.l = .slice (some ⟨ib, 0, none⟩) nI capI
  lt : id < nI
  le : nI ≤ 1000
  cid : c.id = (id : Int)
  k : w.cell? ⟨ib, id * 14, none⟩ = some (.int .i64 kd)
/-- Why a record is refused, or 0. -/
def whyF (kind kd n : Int) (f : Nat) (cl : Bool) : Int := if cl then 8 else if kd = kdOf kind then (if kind = 6 then (if mayB f then 0 else 2) else (if n < 0 then 2 else 0)) else 7
set_option maxRecDepth 10000 in
set_option maxHeartbeats 8000000 in
theorem refusal_any (cb mb rb ib id nI capI : Nat) (kd st : Int) (cl : Bool) (c : Cl) (m : Mc) (row : List Int) (f : Nat) (hf : c.f = (f : Int)) (hf1 : f < 18446744073709551616) (w : World) (H : Dst cb mb rb c m row w) (E : Env ib id nI capI kd st cl c m w) (er : Int) (her : er = whyF c.kind kd c.n f cl) :
    Calls Tryz.prog 188 #[.pointer (some ⟨mb, 0, none⟩), .pointer (some ⟨cb, 0, none⟩)] w fun e w' => e = .returned (.int .i64 er) ∧ Hid (Below w.heap.size w w') := by
  have c0 : w.cell? ⟨cb, 0, none⟩ = some (.int .i64 c.kind) := H.cc 0 _ rfl
  have c5 : w.cell? ⟨cb, 5, none⟩ = some (.pointer (some ⟨c.x, 0, none⟩)) := H.cc 5 _ rfl
  have c6 : w.cell? ⟨cb, 6, none⟩ = some (.int .i64 (id : Int)) := H.cc 6 _ (by rw [← E.cid]; rfl)
  have c7 : w.cell? ⟨cb, 7, none⟩ = some (.int .i64 c.n) := H.cc 7 _ rfl
  have c8 : w.cell? ⟨cb, 8, none⟩ = some (.int .u64 (f : Int)) := H.cc 8 _ (by rw [← hf]; rfl)
  have m11 : w.cell? ⟨mb, 11, none⟩ = some (.slice (some ⟨ib, 0, none⟩) nI capI) := H.mm 11 _ (by rw [← E.l]; rfl)
  have x1 := E.x1
  have ek := E.k
  have hlt : (id : Int) < (nI : Int) := by have := E.lt; omega
  have HK : Hid (∀ W, _) := kind_any c.kind
  have HM : Hid (∀ W, _) := rmay_any f hf1
  have hB0 : Below w.heap.size w w.drew := ⟨rfl, rfl, rfl, Nat.le_refl _, fun _ _ => rfl⟩
  have HB : Hid (Below w.heap.size w w.drew) := hB0
  clear H E hf hf1 hB0
  unfold whyF kdOf at her
  generalize (if c.kind = 4 then (1 : Int) else if c.kind = 5 then 2 else 3) = kk at *
  generalize mayB f = bm at *
  generalize c.n = n at *
  generalize c.kind = ck at *
  cases cl with
  | true =>
    rw [if_pos rfl] at her
    subst her
    clear HK HM HB
    go_enter Tryz.func188, Tryz.ntmps188
    go_wp2_with fail
    go_ret
    exact ⟨rfl, Below.refl _ _⟩
  | false =>
    rw [if_neg (by decide)] at her
    by_cases hk : kd = kk
    · rw [if_pos hk] at her
      subst hk
      by_cases h6 : ck = 6
      · rw [if_pos h6] at her
        subst h6
        cases bm with
        | true =>
          rw [if_pos rfl] at her
          subst her
          go_enter Tryz.func188, Tryz.ntmps188
          go_upto_region 3 with fail
          go_region_held3 (fun V => V.cell? ⟨mb, 11, none⟩ = some (.slice (some ⟨ib, 0, none⟩) nI capI) ∧ V.cell? ⟨cb, 6, none⟩ = some (.int .i64 (id : Int)) ∧ V.cell? ⟨cb, 0, none⟩ = some (.int .i64 6) ∧ V.cell? ⟨ib, id * 14, none⟩ = some (.int .i64 kd)) (first | with_reducible assumption | exact ⟨m11, c6, c0, ek⟩) ((go_at_call 246; with_reducible refine Calls.mono (HK.out _) ?_; rintro e w2 ⟨rfl, rfl⟩))
          all_goals
            go_wp2_with (go_at_call 247; with_reducible refine Calls.mono (HM.out _) ?_; rintro e w2 ⟨rfl, rfl⟩)
            go_ret
            exact ⟨rfl, HB⟩
        | false =>
          rw [if_neg (by decide)] at her
          subst her
          go_enter Tryz.func188, Tryz.ntmps188
          go_upto_region 3 with fail
          go_region_held3 (fun V => V.cell? ⟨mb, 11, none⟩ = some (.slice (some ⟨ib, 0, none⟩) nI capI) ∧ V.cell? ⟨cb, 6, none⟩ = some (.int .i64 (id : Int)) ∧ V.cell? ⟨cb, 0, none⟩ = some (.int .i64 6) ∧ V.cell? ⟨ib, id * 14, none⟩ = some (.int .i64 kd)) (first | with_reducible assumption | exact ⟨m11, c6, c0, ek⟩) ((go_at_call 246; with_reducible refine Calls.mono (HK.out _) ?_; rintro e w2 ⟨rfl, rfl⟩))
          all_goals
            go_wp2_with (go_at_call 247; with_reducible refine Calls.mono (HM.out _) ?_; rintro e w2 ⟨rfl, rfl⟩)
            go_ret
            exact ⟨rfl, HB⟩
      · rw [if_neg h6] at her
        by_cases hn : n < 0
        · rw [if_pos hn] at her
          subst her
          go_enter Tryz.func188, Tryz.ntmps188
          go_upto_region 3 with fail
          go_region_held3 (fun V => V.cell? ⟨mb, 11, none⟩ = some (.slice (some ⟨ib, 0, none⟩) nI capI) ∧ V.cell? ⟨cb, 6, none⟩ = some (.int .i64 (id : Int)) ∧ V.cell? ⟨cb, 0, none⟩ = some (.int .i64 ck) ∧ V.cell? ⟨ib, id * 14, none⟩ = some (.int .i64 kd)) (first | with_reducible assumption | exact ⟨m11, c6, c0, ek⟩) ((go_at_call 246; with_reducible refine Calls.mono (HK.out _) ?_; rintro e w2 ⟨rfl, rfl⟩))
          all_goals
            go_wp2_with (go_at_call 247; with_reducible refine Calls.mono (HM.out _) ?_; rintro e w2 ⟨rfl, rfl⟩)
            go_ret
            exact ⟨rfl, HB⟩
        · rw [if_neg hn] at her
          subst her
          go_enter Tryz.func188, Tryz.ntmps188
          go_upto_region 3 with fail
          go_region_held3 (fun V => V.cell? ⟨mb, 11, none⟩ = some (.slice (some ⟨ib, 0, none⟩) nI capI) ∧ V.cell? ⟨cb, 6, none⟩ = some (.int .i64 (id : Int)) ∧ V.cell? ⟨cb, 0, none⟩ = some (.int .i64 ck) ∧ V.cell? ⟨ib, id * 14, none⟩ = some (.int .i64 kd)) (first | with_reducible assumption | exact ⟨m11, c6, c0, ek⟩) ((go_at_call 246; with_reducible refine Calls.mono (HK.out _) ?_; rintro e w2 ⟨rfl, rfl⟩))
          all_goals
            go_wp2_with (go_at_call 247; with_reducible refine Calls.mono (HM.out _) ?_; rintro e w2 ⟨rfl, rfl⟩)
            go_ret
            exact ⟨rfl, HB⟩
    · rw [if_neg hk] at her
      subst her
      clear HM
      go_enter Tryz.func188, Tryz.ntmps188
      go_upto_region 3 with fail
      go_region_held3 (fun V => V.cell? ⟨mb, 11, none⟩ = some (.slice (some ⟨ib, 0, none⟩) nI capI) ∧ V.cell? ⟨cb, 6, none⟩ = some (.int .i64 (id : Int)) ∧ V.cell? ⟨cb, 0, none⟩ = some (.int .i64 ck) ∧ V.cell? ⟨ib, id * 14, none⟩ = some (.int .i64 kd)) (first | with_reducible assumption | exact ⟨m11, c6, c0, ek⟩) ((go_at_call 246; with_reducible refine Calls.mono (HK.out _) ?_; rintro e w2 ⟨rfl, rfl⟩))
      all_goals
        go_wp2_with fail
        go_ret
        exact ⟨rfl, HB⟩
end Go.Proofs.YtaeapikhhbjlnaaGreatDoor
/- THE DOCUMENT's MACHINE: a step on the cells. Own work of the verifier. -/
namespace Go.Proofs.YtaeapikhhbjlnaaGreatDoor
open Go.RowKit

/-- One more was refused in a buffer. -/
def Mc.ref (m : Mc) (b : Nat) : Mc := if b = 0 then { m with r0 := wrap64 (m.r0 + 1) } else { m with r1 := wrap64 (m.r1 + 1) }
set_option maxRecDepth 10000 in
set_option maxHeartbeats 4000000 in
theorem lay_no (cb mb rb b : Nat) (c : Cl) (m : Mc) (row : List Int) (w : World) (H : Dst cb mb rb c m row w) (hb : b < 2) (hbf : c.buffer = (b : Int)) (hw : ¬ c.why = 0) :
    Calls Tryz.prog 189 #[.pointer (some ⟨mb, 0, none⟩), .pointer (some ⟨cb, 0, none⟩)] w fun e w' => e = .returned (.tuple #[]) ∧ Hid (Dst cb mb rb { c with at_ := 99 } (m.ref b) row w') ∧ Hid (Chg (D3 cb mb rb) w w') := by
  obtain ⟨a1, a2, a3, a4, a5, a6⟩ := H.ne
  obtain ⟨y, hy⟩ : ∃ y, y = c.why := ⟨_, rfl⟩
  rw [← hy] at hw
  have c18 : w.cell? ⟨cb, 18, none⟩ = some (.int .i64 y) := H.cc 18 _ (by rw [hy]; rfl)
  have f9 := H.cf 9
  have fm := fun o => H.mf o
  clear hy
  rcases (show b = 0 ∨ b = 1 by omega) with rfl | rfl
  · have c13 : w.cell? ⟨cb, 13, none⟩ = some (.int .i64 0) := H.cc 13 _ (by rw [show (0 : Int) = c.buffer from hbf.symm]; rfl)
    have c9 : w.cell? ⟨cb, 9, none⟩ = some (.int .i64 c.at_) := H.cc 9 _ rfl
    have m9 : w.cell? ⟨mb, 9, none⟩ = some (.int .i64 m.r0) := H.mm 9 _ rfl
    have g9 := fm 9
    have hwi := wi64 (m.r0 + 1)
    have HQ : Hid (Dst cb mb rb { c with at_ := 99 } (m.ref 0) row ((w.drew.setCell ⟨mb, 9, none⟩ (.int .i64 (wrap64 (m.r0 + 1)))).setCell ⟨cb, 9, none⟩ (.int .i64 99))) := (H.drew.putM 9 _ (m.ref 0) rfl).putC 9 _ _ rfl
    have HC : Hid (Chg (D3 cb mb rb) w ((w.drew.setCell ⟨mb, 9, none⟩ (.int .i64 (wrap64 (m.r0 + 1)))).setCell ⟨cb, 9, none⟩ (.int .i64 99))) := d3_c (d3_m (Chg.refl _ _).drew _ _) _ _
    generalize wrap64 (m.r0 + 1) = z at *
    generalize m.r0 = r at *
    clear H hbf fm
    go_enter Tryz.func189, Tryz.ntmps189
    go_upto_region 1 with fail
    go_region
    all_goals
      go_wp2_with fail
      first | go_end0 | refine bodyPost_ret (results_none rfl _ _ _) rfl ?_
      exact ⟨rfl, HQ, HC⟩
  · have c13 : w.cell? ⟨cb, 13, none⟩ = some (.int .i64 1) := H.cc 13 _ (by rw [show (1 : Int) = c.buffer from hbf.symm]; rfl)
    have c9 : w.cell? ⟨cb, 9, none⟩ = some (.int .i64 c.at_) := H.cc 9 _ rfl
    have m9 : w.cell? ⟨mb, 10, none⟩ = some (.int .i64 m.r1) := H.mm 10 _ rfl
    have g9 := fm 10
    have hwi := wi64 (m.r1 + 1)
    have HQ : Hid (Dst cb mb rb { c with at_ := 99 } (m.ref 1) row ((w.drew.setCell ⟨mb, 10, none⟩ (.int .i64 (wrap64 (m.r1 + 1)))).setCell ⟨cb, 9, none⟩ (.int .i64 99))) := (H.drew.putM 10 _ (m.ref 1) rfl).putC 9 _ _ rfl
    have HC : Hid (Chg (D3 cb mb rb) w ((w.drew.setCell ⟨mb, 10, none⟩ (.int .i64 (wrap64 (m.r1 + 1)))).setCell ⟨cb, 9, none⟩ (.int .i64 99))) := d3_c (d3_m (Chg.refl _ _).drew _ _) _ _
    generalize wrap64 (m.r1 + 1) = z at *
    generalize m.r1 = r at *
    clear H hbf fm
    go_enter Tryz.func189, Tryz.ntmps189
    go_upto_region 1 with fail
    go_region
    all_goals
      go_wp2_with fail
      first | go_end0 | refine bodyPost_ret (results_none rfl _ _ _) rfl ?_
      exact ⟨rfl, HQ, HC⟩
set_option maxHeartbeats 2000000 in
/-- A step of a counter, and of a histogram behind its bucket: whole. -/
theorem lay_whole (cb mb rb : Nat) (c : Cl) (m : Mc) (row : List Int) (w : World) (H : Dst cb mb rb c m row w) (hw : c.why = 0) (hk : c.kind = 4 ∨ c.kind = 5 ∧ ¬ c.at_ = 2) (Q : World → Prop)
    (HW : Hid (∀ _ : Unit, Calls Tryz.prog 248 #[.pointer (some ⟨cb, 0, none⟩)] w fun e w' => e = .returned (.tuple #[]) ∧ Hid (Q w'))) :
    Calls Tryz.prog 189 #[.pointer (some ⟨mb, 0, none⟩), .pointer (some ⟨cb, 0, none⟩)] w fun e w' => e = .returned (.tuple #[]) ∧ Hid (Q w') := by
  have c18 : w.cell? ⟨cb, 18, none⟩ = some (.int .i64 0) := H.cc 18 _ (by rw [← hw]; rfl)
  rcases hk with hk | ⟨hk, hat⟩
  · have c0 : w.cell? ⟨cb, 0, none⟩ = some (.int .i64 4) := H.cc 0 _ (by rw [← hk]; rfl)
    clear H hw hk
    go_enter Tryz.func189, Tryz.ntmps189
    go_wp2_with (go_at_call 248; with_reducible refine Calls.mono (HW.out ()) ?_; rintro e w1 ⟨rfl, HQ⟩)
    first | go_end0 | refine bodyPost_ret (results_none rfl _ _ _) rfl ?_
    exact ⟨rfl, HQ⟩
  · have c0 : w.cell? ⟨cb, 0, none⟩ = some (.int .i64 5) := H.cc 0 _ (by rw [← hk]; rfl)
    have c9 : w.cell? ⟨cb, 9, none⟩ = some (.int .i64 c.at_) := H.cc 9 _ rfl
    clear H hw hk
    generalize c.at_ = y at *
    go_enter Tryz.func189, Tryz.ntmps189
    go_wp2_with (go_at_call 248; with_reducible refine Calls.mono (HW.out ()) ?_; rintro e w1 ⟨rfl, HQ⟩)
    first | go_end0 | refine bodyPost_ret (results_none rfl _ _ _) rfl ?_
    exact ⟨rfl, HQ⟩
/-- A step of a summary: float. -/
theorem lay_float (cb mb rb : Nat) (c : Cl) (m : Mc) (row : List Int) (w : World) (H : Dst cb mb rb c m row w) (hw : c.why = 0) (hk : c.kind = 6) (Q : World → Prop)
    (HW : Hid (∀ _ : Unit, Calls Tryz.prog 250 #[.pointer (some ⟨cb, 0, none⟩)] w fun e w' => e = .returned (.tuple #[]) ∧ Hid (Q w'))) :
    Calls Tryz.prog 189 #[.pointer (some ⟨mb, 0, none⟩), .pointer (some ⟨cb, 0, none⟩)] w fun e w' => e = .returned (.tuple #[]) ∧ Hid (Q w') := by
  have c18 : w.cell? ⟨cb, 18, none⟩ = some (.int .i64 0) := H.cc 18 _ (by rw [← hw]; rfl)
  have c0 : w.cell? ⟨cb, 0, none⟩ = some (.int .i64 6) := H.cc 0 _ (by rw [← hk]; rfl)
  clear H hw hk
  go_enter Tryz.func189, Tryz.ntmps189
  go_wp2_with (go_at_call 250; with_reducible refine Calls.mono (HW.out ()) ?_; rintro e w1 ⟨rfl, HQ⟩)
  first | go_end0 | refine bodyPost_ret (results_none rfl _ _ _) rfl ?_
  exact ⟨rfl, HQ⟩
theorem rindexF (p v : Nat) (h1 : 1 ≤ p) (h2 : p ≤ 14) (hv : v < 9223372036854775808) (w : World) :
    Calls Tryz.prog 249 #[.int .i64 (p : Int), .int .i64 (v : Int)] w fun e w' => e = .returned (.tuple #[.int .i64 (ixF p v : Nat), .int .i64 0]) ∧ Hid (Below w.heap.size w w') := by
  refine Calls.mono (rindex_yes p v h1 h2 hv w) ?_
  rintro e w' ⟨⟨n, rfl⟩, k, hk, rfl⟩
  exact ⟨by unfold ixF; rw [kOf_eq hk], ⟨rfl, rfl, rfl, Nat.le_refl _, fun _ _ => rfl⟩⟩
set_option maxRecDepth 10000 in
set_option maxHeartbeats 4000000 in
/-- A step of a histogram: its bucket. -/
theorem lay_bucket (cb mb rb p v N cap : Nat) (c : Cl) (m : Mc) (row : List Int) (w : World) (H : Dst cb mb rb c m row w) (hw : c.why = 0) (hk : c.kind = 5) (hat : c.at_ = 2) (hp : m.pr = (p : Int)) (h1 : 1 ≤ p) (h2 : p ≤ 14) (hv : c.n = (v : Int)) (hv1 : v < 9223372036854775808) (ht : c.tov = .slice (some ⟨rb, 0, none⟩) N cap) (hN : row.length = N) (hN2 : N = Lg (p : Int) + 2) :
    Calls Tryz.prog 189 #[.pointer (some ⟨mb, 0, none⟩), .pointer (some ⟨cb, 0, none⟩)] w fun e w' => e = .returned (.tuple #[]) ∧ Hid (Dst cb mb rb { c with at_ := 3 } m (inc row (2 + ixF p v)) w') ∧ Hid (Chg (D3 cb mb rb) w w') := by
  obtain ⟨a1, a2, a3, a4, a5, a6⟩ := H.ne
  have hix := ixF_lt h2 h1 hv1
  have hLg := Lg_le (p : Int)
  have c18 : w.cell? ⟨cb, 18, none⟩ = some (.int .i64 0) := H.cc 18 _ (by rw [← hw]; rfl)
  have c0 : w.cell? ⟨cb, 0, none⟩ = some (.int .i64 5) := H.cc 0 _ (by rw [← hk]; rfl)
  have c9 : w.cell? ⟨cb, 9, none⟩ = some (.int .i64 2) := H.cc 9 _ (by rw [← hat]; rfl)
  have c7 : w.cell? ⟨cb, 7, none⟩ = some (.int .i64 (v : Int)) := H.cc 7 _ (by rw [← hv]; rfl)
  have m1 : w.cell? ⟨mb, 1, none⟩ = some (.int .i64 (p : Int)) := H.mm 1 _ (by rw [← hp]; rfl)
  obtain ⟨q, hq⟩ : ∃ q, q = ixF p v := ⟨_, rfl⟩
  obtain ⟨q2, hq2⟩ : ∃ q2, q2 = 2 + q := ⟨_, rfl⟩
  have e2 : (2 : Int) + (q : Int) = (q2 : Int) := by omega
  have hql : q2 < row.length := by omega
  have hqi : (q2 : Int) < (N : Int) := by rw [← hN]; exact Int.ofNat_lt.2 hql
  have hw2 : wrap64 (q2 : Int) = (q2 : Int) := by
    have : q2 < 1048580 := by omega
    clear hqi e2
    unfold wrap64; omega
  rw [← hq, ← hq2]
  have hrow : row[q2]? = some (row.getD q2 0) := by rw [List.getD_eq_getElem?_getD, List.getElem?_eq_getElem hql]; rfl
  have HI : Hid (∀ _ : Unit, Calls Tryz.prog 249 #[.int .i64 (p : Int), .int .i64 (v : Int)] w.drew fun e w' => e = .returned (.tuple #[.int .i64 (q : Int), .int .i64 0]) ∧ (w'.cell? ⟨mb, 1, none⟩ = some (.int .i64 (p : Int)) ∧ w'.cell? ⟨cb, 7, none⟩ = some (.int .i64 (v : Int))) ∧ w'.cell? ⟨cb, 17, none⟩ = some (.slice (some ⟨rb, 0, none⟩) N cap) ∧ w'.cell? ⟨cb, 9, none⟩ = some (.int .i64 2) ∧ w'.frozen? ⟨cb, 9, none⟩ = false ∧ w'.cell? ⟨rb, q2, none⟩ = some (.int .i64 (row.getD q2 0)) ∧ w'.frozen? ⟨rb, q2, none⟩ = false ∧ Hid (Dst cb mb rb { c with at_ := 3 } m (inc row q2) ((w'.setCell ⟨rb, q2, none⟩ (.int .i64 (wrap64 (row.getD q2 0 + 1)))).setCell ⟨cb, 9, none⟩ (.int .i64 3))) ∧ Hid (Chg (D3 cb mb rb) w ((w'.setCell ⟨rb, q2, none⟩ (.int .i64 (wrap64 (row.getD q2 0 + 1)))).setCell ⟨cb, 9, none⟩ (.int .i64 3)))) := fun _ => by
    refine Calls.mono (rindexF p v h1 h2 hv1 w.drew) ?_
    rintro e w' ⟨rfl, hb⟩
    have H2 := H.drew.below hb.out
    exact ⟨by rw [hq], ⟨H2.mm 1 _ (by rw [← hp]; rfl), H2.cc 7 _ (by rw [← hv]; rfl)⟩, H2.cc 17 _ (by rw [← ht]; rfl), H2.cc 9 _ (by rw [← hat]; rfl), H2.cf 9, H2.rr q2 _ hrow, H2.rf q2, (H2.putR q2 _).putC 9 _ _ rfl, d3_c (d3_r ((Chg.of_below (S := D3 cb mb rb) (below_undrew2 hb.out))) _ _) _ _⟩
  generalize row.getD q2 0 = z at *
  clear H hw hk hat hp h1 h2 hv hv1 ht hN hN2 hix hLg hq hq2 hql hrow
  go_enter Tryz.func189, Tryz.ntmps189
  go_upto_region 9 with fail
  go_region_held3 (fun V => V.cell? ⟨mb, 1, none⟩ = some (.int .i64 (p : Int)) ∧ V.cell? ⟨cb, 7, none⟩ = some (.int .i64 (v : Int))) (first | with_reducible assumption | exact ⟨m1, c7⟩) ((go_at_call 249; with_reducible refine Calls.mono (HI.out ()) ?_; rintro e w2 ⟨rfl, k1, k2, k3, k4, k5, k6, HQ, HC⟩))
  all_goals
    go_wp2_with fail
    first | go_end0 | refine bodyPost_ret (results_none rfl _ _ _) rfl ?_
    exact ⟨rfl, HQ, HC⟩
end Go.Proofs.YtaeapikhhbjlnaaGreatDoor
/- THE DOCUMENT's MACHINE: a record's steps. Own work of the verifier. -/
namespace Go.Proofs.YtaeapikhhbjlnaaGreatDoor
open Go.RowKit

set_option maxHeartbeats 4000000 in
theorem rec_0 (cb mb rb : Nat) (c : Cl) (m : Mc) (row : List Int) (w : World) (H : Dst cb mb rb c m row w) (hat : c.at_ = 0) :
    Calls Tryz.prog 145 #[.pointer (some ⟨mb, 0, none⟩), .pointer (some ⟨cb, 0, none⟩)] w fun e w' => e = .returned (.tuple #[]) ∧ Hid (Dst cb mb rb { c with phase := m.start, at_ := 1 } { m with start := wrap64 (m.start + 1) } row w') ∧ Hid (Chg (D3 cb mb rb) w w') := by
  obtain ⟨a1, a2, a3, a4, a5, a6⟩ := H.ne
  have c9 : w.cell? ⟨cb, 9, none⟩ = some (.int .i64 0) := H.cc 9 _ (by rw [← hat]; rfl)
  have c11 : w.cell? ⟨cb, 11, none⟩ = some (.int .i64 c.phase) := H.cc 11 _ rfl
  have m5 : w.cell? ⟨mb, 5, none⟩ = some (.int .i64 m.start) := H.mm 5 _ rfl
  have f9 := H.cf 9
  have f11 := H.cf 11
  have g5 := H.mf 5
  have HQ : Hid (Dst cb mb rb { c with phase := m.start, at_ := 1 } { m with start := wrap64 (m.start + 1) } row (((w.setCell ⟨cb, 11, none⟩ (.int .i64 m.start)).setCell ⟨mb, 5, none⟩ (.int .i64 (wrap64 (m.start + 1)))).setCell ⟨cb, 9, none⟩ (.int .i64 1))) := ((H.putC 11 (.int .i64 m.start) { c with phase := m.start } rfl).putM 5 _ { m with start := wrap64 (m.start + 1) } rfl).putC 9 _ _ rfl
  have HC : Hid (Chg (D3 cb mb rb) w (((w.setCell ⟨cb, 11, none⟩ (.int .i64 m.start)).setCell ⟨mb, 5, none⟩ (.int .i64 (wrap64 (m.start + 1)))).setCell ⟨cb, 9, none⟩ (.int .i64 1))) := d3_c (d3_m (d3_c (Chg.refl _ _) _ _) _ _) _ _
  clear H hat
  go_enter Tryz.func145, Tryz.ntmps145
  go_wp2
  first | go_end0 | refine bodyPost_ret (results_none rfl _ _ _) rfl ?_
  exact ⟨rfl, HQ, HC⟩
/-- What leaving makes of the machine. -/
def Mc.left (m : Mc) (ph : Int) : Mc := if 0 ≤ ph then { m with even := wrap64 (m.even + 1) } else { m with odd := wrap64 (m.odd + 1) }
set_option maxHeartbeats 4000000 in
theorem rec_99 (cb mb rb : Nat) (c : Cl) (m : Mc) (row : List Int) (w : World) (H : Dst cb mb rb c m row w) (hat : c.at_ = 99) :
    Calls Tryz.prog 145 #[.pointer (some ⟨mb, 0, none⟩), .pointer (some ⟨cb, 0, none⟩)] w fun e w' => e = .returned (.tuple #[]) ∧ Hid (Dst cb mb rb { c with e := c.why, done := true } (m.left c.phase) row w') ∧ Hid (Chg (D3 cb mb rb) w w') := by
  obtain ⟨a1, a2, a3, a4, a5, a6⟩ := H.ne
  have c9 : w.cell? ⟨cb, 9, none⟩ = some (.int .i64 99) := H.cc 9 _ (by rw [← hat]; rfl)
  have c11 : w.cell? ⟨cb, 11, none⟩ = some (.int .i64 c.phase) := H.cc 11 _ rfl
  have c18 : w.cell? ⟨cb, 18, none⟩ = some (.int .i64 c.why) := H.cc 18 _ rfl
  have c25 : w.cell? ⟨cb, 25, none⟩ = some (.int .i64 c.e) := H.cc 25 _ rfl
  have c24 : w.cell? ⟨cb, 24, none⟩ = some (.bool c.done) := H.cc 24 _ rfl
  have m6 : w.cell? ⟨mb, 6, none⟩ = some (.int .i64 m.even) := H.mm 6 _ rfl
  have m7 : w.cell? ⟨mb, 7, none⟩ = some (.int .i64 m.odd) := H.mm 7 _ rfl
  have f25 := H.cf 25
  have f24 := H.cf 24
  have g6 := H.mf 6
  have g7 := H.mf 7
  by_cases hp : 0 ≤ c.phase
  · have e1 : m.left c.phase = { m with even := wrap64 (m.even + 1) } := if_pos hp
    rw [e1]
    have hp' : ¬ c.phase < 0 := by omega
    have HQ : Hid (Dst cb mb rb { c with e := c.why, done := true } { m with even := wrap64 (m.even + 1) } row (((w.setCell ⟨mb, 6, none⟩ (.int .i64 (wrap64 (m.even + 1)))).setCell ⟨cb, 25, none⟩ (.int .i64 c.why)).setCell ⟨cb, 24, none⟩ (.bool true))) := ((H.putM 6 (.int .i64 (wrap64 (m.even + 1))) { m with even := wrap64 (m.even + 1) } rfl).putC 25 (.int .i64 c.why) { c with e := c.why } rfl).putC 24 _ _ rfl
    have HC : Hid (Chg (D3 cb mb rb) w (((w.setCell ⟨mb, 6, none⟩ (.int .i64 (wrap64 (m.even + 1)))).setCell ⟨cb, 25, none⟩ (.int .i64 c.why)).setCell ⟨cb, 24, none⟩ (.bool true))) := d3_c (d3_c (d3_m (Chg.refl _ _) _ _) _ _) _ _
    clear H hat e1
    go_enter Tryz.func145, Tryz.ntmps145
    go_wp2
    first | go_end0 | refine bodyPost_ret (results_none rfl _ _ _) rfl ?_
    exact ⟨rfl, HQ, HC⟩
  · have e1 : m.left c.phase = { m with odd := wrap64 (m.odd + 1) } := if_neg hp
    rw [e1]
    have hp' : c.phase < 0 := by omega
    have HQ : Hid (Dst cb mb rb { c with e := c.why, done := true } { m with odd := wrap64 (m.odd + 1) } row (((w.setCell ⟨mb, 7, none⟩ (.int .i64 (wrap64 (m.odd + 1)))).setCell ⟨cb, 25, none⟩ (.int .i64 c.why)).setCell ⟨cb, 24, none⟩ (.bool true))) := ((H.putM 7 (.int .i64 (wrap64 (m.odd + 1))) { m with odd := wrap64 (m.odd + 1) } rfl).putC 25 (.int .i64 c.why) { c with e := c.why } rfl).putC 24 _ _ rfl
    have HC : Hid (Chg (D3 cb mb rb) w (((w.setCell ⟨mb, 7, none⟩ (.int .i64 (wrap64 (m.odd + 1)))).setCell ⟨cb, 25, none⟩ (.int .i64 c.why)).setCell ⟨cb, 24, none⟩ (.bool true))) := d3_c (d3_c (d3_m (Chg.refl _ _) _ _) _ _) _ _
    clear H hat e1
    go_enter Tryz.func145, Tryz.ntmps145
    go_wp2
    first | go_end0 | refine bodyPost_ret (results_none rfl _ _ _) rfl ?_
    exact ⟨rfl, HQ, HC⟩
theorem rec_lay (cb mb rb : Nat) (c : Cl) (m : Mc) (row : List Int) (w : World) (H : Dst cb mb rb c m row w) (h0 : ¬ c.at_ = 0) (h1 : ¬ c.at_ = 1) (h99 : ¬ c.at_ = 99) (Q : World → Prop)
    (HL : Hid (∀ _ : Unit, Calls Tryz.prog 189 #[.pointer (some ⟨mb, 0, none⟩), .pointer (some ⟨cb, 0, none⟩)] w fun e w' => e = .returned (.tuple #[]) ∧ Hid (Q w'))) :
    Calls Tryz.prog 145 #[.pointer (some ⟨mb, 0, none⟩), .pointer (some ⟨cb, 0, none⟩)] w fun e w' => e = .returned (.tuple #[]) ∧ Hid (Q w') := by
  have c9 : w.cell? ⟨cb, 9, none⟩ = some (.int .i64 c.at_) := H.cc 9 _ rfl
  clear H
  generalize c.at_ = y at *
  go_enter Tryz.func145, Tryz.ntmps145
  go_wp2_with (go_at_call 189; with_reducible refine Calls.mono (HL.out ()) ?_; rintro e w1 ⟨rfl, HQ⟩)
  first | go_end0 | refine bodyPost_ret (results_none rfl _ _ _) rfl ?_
  exact ⟨rfl, HQ⟩
set_option maxHeartbeats 4000000 in
/-- A step, by what record does. -/
theorem step_of (cb mb rb : Nat) (c : Cl) (m : Mc) (row : List Int) (w : World) (H : Dst cb mb rb c m row w) (hk : c.kind = 4 ∨ c.kind = 5 ∨ c.kind = 6) (s1 : Int) (hs1 : s1 = wrap64 (c.steps + 1)) (Q : World → Prop)
    (HR : ∀ W, Dst cb mb rb { c with steps := s1, pt := false } m row W → Chg (D3 cb mb rb) w W → Calls Tryz.prog 145 #[.pointer (some ⟨mb, 0, none⟩), .pointer (some ⟨cb, 0, none⟩)] W fun e w' => e = .returned (.tuple #[]) ∧ Hid (Q w')) :
    Calls Tryz.prog 95 #[.pointer (some ⟨mb, 0, none⟩), .pointer (some ⟨cb, 0, none⟩)] w fun e w' => e = .returned (.tuple #[]) ∧ Hid (Q w') := by
  have c21 : w.cell? ⟨cb, 21, none⟩ = some (.int .i64 c.steps) := H.cc 21 _ rfl
  have c23 : w.cell? ⟨cb, 23, none⟩ = some (.bool c.pt) := H.cc 23 _ rfl
  have c0 : w.cell? ⟨cb, 0, none⟩ = some (.int .i64 c.kind) := H.cc 0 _ rfl
  have f21 := H.cf 21
  have f23 := H.cf 23
  have hw : wrap64 (c.steps + 1) = s1 := hs1.symm
  have HRc : Hid (∀ _ : Unit, _) := fun _ => HR ((w.setCell ⟨cb, 21, none⟩ (.int .i64 s1)).setCell ⟨cb, 23, none⟩ (.bool false)) ((H.putC 21 (.int .i64 s1) { c with steps := s1 } rfl).putC 23 _ _ rfl) (d3_c (d3_c (Chg.refl _ _) _ _) _ _)
  clear H HR hs1
  rcases hk with hk | hk | hk
  all_goals
    rw [hk] at c0
    go_enter Tryz.func95, Tryz.ntmps95
    go_wp2_with (go_at_call 145; with_reducible refine Calls.mono (HRc.out ()) ?_; rintro e w1 ⟨rfl, HQ⟩)
    first | go_end0 | refine bodyPost_ret (results_none rfl _ _ _) rfl ?_
    exact ⟨rfl, HQ⟩
set_option maxHeartbeats 4000000 in
/-- Begin of a record on an instrument that is there. -/
theorem begin_any (cb mb rb id nI capI ib : Nat) (c : Cl) (m : Mc) (row : List Int) (w : World) (H : Dst cb mb rb c m row w) (hk : c.kind = 4 ∨ c.kind = 5 ∨ c.kind = 6) (hid : c.id = (id : Int)) (hl : m.l = .slice (some ⟨ib, 0, none⟩) nI capI) (hlt : id < nI) :
    Calls Tryz.prog 94 #[.pointer (some ⟨mb, 0, none⟩), .pointer (some ⟨cb, 0, none⟩)] w fun e w' => e = .returned (.tuple #[]) ∧ w' = w.drew := by
  have c0 : w.cell? ⟨cb, 0, none⟩ = some (.int .i64 c.kind) := H.cc 0 _ rfl
  have c6 : w.cell? ⟨cb, 6, none⟩ = some (.int .i64 (id : Int)) := H.cc 6 _ (by rw [← hid]; rfl)
  have m11 : w.cell? ⟨mb, 11, none⟩ = some (.slice (some ⟨ib, 0, none⟩) nI capI) := H.mm 11 _ (by rw [← hl]; rfl)
  have h1 : ¬ (id : Int) < 0 := by omega
  have h2 : (id : Int) < (nI : Int) := by omega
  have h3 : ¬ (nI : Int) ≤ (id : Int) := by omega
  clear H hid hl hlt
  rcases hk with hk | hk | hk
  all_goals
    rw [hk] at c0
    clear hk
    go_enter Tryz.func94, Tryz.ntmps94
    go_upto_region 14 with fail
    go_region
    all_goals
      go_wp2_with fail
      first | go_end0 | refine bodyPost_ret (results_none rfl _ _ _) rfl ?_
      exact ⟨rfl, rfl⟩
set_option maxHeartbeats 4000000 in
/-- A call that is done at once: from its first state over K steps. -/
theorem alone_of (cb mb : Nat) (w : World) (K : Nat) (P : Nat → World → Prop) (HB : Calls Tryz.prog 94 #[.pointer (some ⟨mb, 0, none⟩), .pointer (some ⟨cb, 0, none⟩)] w fun e w' => e = .returned (.tuple #[]) ∧ Hid (P 0 w'))
    (hd : ∀ j W, j ≤ K → P j W → W.cell? ⟨cb, 24, none⟩ = some (.bool (decide (j = K))) ∧ W.cell? ⟨cb, 21, none⟩ = some (.int .i64 (j : Int)))
    (hs : ∀ j W, j < K → P j W → Calls Tryz.prog 95 #[.pointer (some ⟨mb, 0, none⟩), .pointer (some ⟨cb, 0, none⟩)] W fun e w' => e = .returned (.tuple #[]) ∧ Hid (P (j + 1) w')) :
    Calls Tryz.prog 49 #[.pointer (some ⟨mb, 0, none⟩), .pointer (some ⟨cb, 0, none⟩)] w fun e w' => e = .returned (.tuple #[]) ∧ Hid (P K w') := by
  have HBg : Hid (∀ _ : Unit, _) := fun _ => HB
  have HD : Hid (∀ j W, j ≤ K → P j W → W.cell? ⟨cb, 24, none⟩ = some (.bool (decide (j = K))) ∧ W.cell? ⟨cb, 21, none⟩ = some (.int .i64 (j : Int))) := hd
  have HS : Hid (∀ j W, j < K → P j W → _) := hs
  clear HB hd hs
  go_enter Tryz.func49, Tryz.ntmps49
  go_wp2_with (go_at_call 94; with_reducible refine Calls.mono (HBg.out ()) ?_; rintro e w1 ⟨rfl, HP0⟩)
  go_loopw [] (fun W => ∃ j : Nat, j ≤ K ∧ Hid (P j W)) (fun W => K - (intOf ((W.cell? ⟨cb, 21, none⟩).getD undef)).toNat)
  case atStart => exact ⟨0, by omega, HP0⟩
  case round =>
    obtain ⟨j, hj, HP⟩ := hrel
    obtain ⟨d1, d2⟩ := HD.out j _ hj HP.out
    by_cases hlt : j < K
    · rw [decide_eq_false (by omega : ¬ j = K)] at d1
      have HSt : Hid (∀ _ : Unit, _) := fun _ => HS.out j _ hlt HP.out
      go_wp2_with (go_at_call 95; with_reducible refine Calls.mono (HSt.out ()) ?_; rintro e w2 ⟨rfl, HP2⟩)
      refine ⟨⟨j + 1, by omega, HP2⟩, ?_⟩
      have d3 := (HD.out (j + 1) _ (by omega) HP2.out).2
      rw [d2, d3]
      simp [intOf]
      omega
    · obtain rfl : j = K := by omega
      rw [decide_eq_true rfl] at d1
      go_wp2_with fail
      first | go_end0 | refine bodyPost_ret (results_none rfl _ _ _) rfl ?_
      exact ⟨rfl, HP⟩
end Go.Proofs.YtaeapikhhbjlnaaGreatDoor
