/- THE DOCUMENT's MACHINE: a record's point. Own work of the verifier. -/
import Derived.Test.YtaeapikhhbjlnaaGreatDoorZBF
namespace Go.Proofs.YtaeapikhhbjlnaaGreatDoor
open Go.RowKit

/-- What a record finds in memory: the recorder, the instrument, its row. -/
structure Ev (x ib id hb st rb N cap NS capH b : Nat) (kd : Int) (cl : Bool) (W : World) : Prop where
  x0 : W.cell? ⟨x, 0, none⟩ = some (.int .i64 (st : Int))
  x1 : W.cell? ⟨x, 1, none⟩ = some (.bool cl)
  k : W.cell? ⟨ib, id * 14, none⟩ = some (.int .i64 kd)
  cells : W.cell? ⟨ib, id * 14 + 4 + b, none⟩ = some (.slice (some ⟨hb, 0, none⟩) NS capH)
  row : W.cell? ⟨hb, st, none⟩ = some (.slice (some ⟨rb, 0, none⟩) N cap)
theorem refusal_at (cb mb rb x ib id hb st N cap NS capH b nI capI : Nat) (kd : Int) (cl : Bool) (c : Cl) (m : Mc) (row : List Int) (f : Nat) (W : World) (H : Dst cb mb rb c m row W) (E : Ev x ib id hb st rb N cap NS capH b kd cl W) (hx : c.x = x) (hid : c.id = (id : Int)) (hl : m.l = .slice (some ⟨ib, 0, none⟩) nI capI) (hlt : id < nI) (hle : nI ≤ 1000) (hf : c.f = (f : Int)) (hf1 : f < 18446744073709551616) (er : Int) (her : er = whyF c.kind kd c.n f cl) :
    Calls Tryz.prog 188 #[.pointer (some ⟨mb, 0, none⟩), .pointer (some ⟨cb, 0, none⟩)] W fun e w' => e = .returned (.int .i64 er) ∧ Hid (Below W.heap.size W w') :=
  refusal_any cb mb rb ib id nI capI kd (st : Int) cl c m row f hf hf1 W H ⟨by rw [hx]; exact E.x0, by rw [hx]; exact E.x1, hl, hlt, hle, hid, E.k⟩ er her
set_option maxRecDepth 10000 in
set_option maxHeartbeats 8000000 in
theorem rec_1no (cb mb rb x ib id hb st N cap NS capH b nI capI : Nat) (kd : Int) (cl : Bool) (c : Cl) (m : Mc) (row : List Int) (f : Nat) (w : World) (H : Dst cb mb rb c m row w) (HE : ∀ W, Chg (D3 cb mb rb) w W → Ev x ib id hb st rb N cap NS capH b kd cl W) (hat : c.at_ = 1) (hma : m.a = (b : Int)) (hx : c.x = x) (hid : c.id = (id : Int)) (hl : m.l = .slice (some ⟨ib, 0, none⟩) nI capI) (hlt : id < nI) (hle : nI ≤ 1000) (hf : c.f = (f : Int)) (hf1 : f < 18446744073709551616) (er : Int) (her : er = whyF c.kind kd c.n f cl) (he : ¬ er = 0) :
    Calls Tryz.prog 145 #[.pointer (some ⟨mb, 0, none⟩), .pointer (some ⟨cb, 0, none⟩)] w fun e w' => e = .returned (.tuple #[]) ∧ Hid (Dst cb mb rb { c with buffer := (b : Int), pt := true, why := er, at_ := 2 } m row w') ∧ Hid (Chg (D3 cb mb rb) w w') := by
  obtain ⟨a1, a2, a3, a4, a5, a6⟩ := H.ne
  have c9 : w.cell? ⟨cb, 9, none⟩ = some (.int .i64 1) := H.cc 9 _ (by rw [← hat]; rfl)
  have c13 : w.cell? ⟨cb, 13, none⟩ = some (.int .i64 c.buffer) := H.cc 13 _ rfl
  have c23 : w.cell? ⟨cb, 23, none⟩ = some (.bool c.pt) := H.cc 23 _ rfl
  have m8 : w.cell? ⟨mb, 8, none⟩ = some (.int .i64 (b : Int)) := H.mm 8 _ (by rw [← hma]; rfl)
  have f13 := H.cf 13
  have f23 := H.cf 23
  have H1 : Dst cb mb rb { c with buffer := (b : Int), pt := true } m row ((w.setCell ⟨cb, 13, none⟩ (.int .i64 (b : Int))).setCell ⟨cb, 23, none⟩ (.bool true)) := (H.putC 13 (.int .i64 (b : Int)) { c with buffer := (b : Int) } rfl).putC 23 _ _ rfl
  have hc1 : Chg (D3 cb mb rb) w ((w.setCell ⟨cb, 13, none⟩ (.int .i64 (b : Int))).setCell ⟨cb, 23, none⟩ (.bool true)) := d3_c (d3_c (Chg.refl _ _) _ _) _ _
  have HR : Hid (∀ _ : Unit, Calls Tryz.prog 188 #[.pointer (some ⟨mb, 0, none⟩), .pointer (some ⟨cb, 0, none⟩)] ((w.setCell ⟨cb, 13, none⟩ (.int .i64 (b : Int))).setCell ⟨cb, 23, none⟩ (.bool true)) fun e w' => e = .returned (.int .i64 er) ∧ w'.cell? ⟨cb, 18, none⟩ = some (.int .i64 c.why) ∧ w'.frozen? ⟨cb, 18, none⟩ = false ∧ w'.cell? ⟨cb, 9, none⟩ = some (.int .i64 1) ∧ w'.frozen? ⟨cb, 9, none⟩ = false ∧ Hid (Dst cb mb rb { c with buffer := (b : Int), pt := true, why := er, at_ := 2 } m row ((w'.setCell ⟨cb, 18, none⟩ (.int .i64 er)).setCell ⟨cb, 9, none⟩ (.int .i64 2))) ∧ Hid (Chg (D3 cb mb rb) w ((w'.setCell ⟨cb, 18, none⟩ (.int .i64 er)).setCell ⟨cb, 9, none⟩ (.int .i64 2)))) := fun _ => by
    refine Calls.mono (refusal_at cb mb rb x ib id hb st N cap NS capH b nI capI kd cl _ m row f _ H1 (HE _ hc1) hx hid hl hlt hle hf hf1 er her) ?_
    rintro e w' ⟨rfl, hb'⟩
    have H2 := H1.below hb'.out
    exact ⟨rfl, H2.cc 18 _ rfl, H2.cf 18, H2.cc 9 _ (by rw [← hat]; rfl), H2.cf 9, (H2.putC 18 (.int .i64 er) { c with buffer := (b : Int), pt := true, why := er } rfl).putC 9 _ _ rfl, d3_c (d3_c (hc1.trans (Chg.of_below (S := fun _ => False) hb'.out) (fun x e => e.elim)) _ _) _ _⟩
  generalize c.why = y at HR
  clear H H1 HE hat hma hx hid hl hlt hle hf hf1 her hc1
  go_enter Tryz.func145, Tryz.ntmps145
  go_wp2_with (go_at_call 188; with_reducible refine Calls.mono (HR.out ()) ?_; rintro e w2 ⟨rfl, k1, k2, k3, k4, HQ, HC⟩)
  first | go_end0 | refine bodyPost_ret (results_none rfl _ _ _) rfl ?_
  exact ⟨rfl, HQ, HC⟩
set_option maxRecDepth 10000 in
set_option maxHeartbeats 8000000 in
theorem rec_1ok (cb mb rb x ib id hb st N cap NS capH b nI capI : Nat) (kd : Int) (cl : Bool) (c : Cl) (m : Mc) (row : List Int) (f : Nat) (w : World) (H : Dst cb mb rb c m row w) (HE : ∀ W, Chg (D3 cb mb rb) w W → Ev x ib id hb st rb N cap NS capH b kd cl W) (hb2 : b < 2) (hst : st < NS) (hat : c.at_ = 1) (hma : m.a = (b : Int)) (hx : c.x = x) (hid : c.id = (id : Int)) (hl : m.l = .slice (some ⟨ib, 0, none⟩) nI capI) (hlt : id < nI) (hle : nI ≤ 1000) (hf : c.f = (f : Int)) (hf1 : f < 18446744073709551616) (her : 0 = whyF c.kind kd c.n f cl) :
    Calls Tryz.prog 145 #[.pointer (some ⟨mb, 0, none⟩), .pointer (some ⟨cb, 0, none⟩)] w fun e w' => e = .returned (.tuple #[]) ∧ Hid (Dst cb mb rb { c with buffer := (b : Int), pt := true, why := 0, at_ := 2, tov := .slice (some ⟨rb, 0, none⟩) N cap } m row w') ∧ Hid (Chg (D3 cb mb rb) w w') := by
  obtain ⟨a1, a2, a3, a4, a5, a6⟩ := H.ne
  have c9 : w.cell? ⟨cb, 9, none⟩ = some (.int .i64 1) := H.cc 9 _ (by rw [← hat]; rfl)
  have c13 : w.cell? ⟨cb, 13, none⟩ = some (.int .i64 c.buffer) := H.cc 13 _ rfl
  have c23 : w.cell? ⟨cb, 23, none⟩ = some (.bool c.pt) := H.cc 23 _ rfl
  have m8 : w.cell? ⟨mb, 8, none⟩ = some (.int .i64 (b : Int)) := H.mm 8 _ (by rw [← hma]; rfl)
  have f13 := H.cf 13
  have f23 := H.cf 23
  have H1 : Dst cb mb rb { c with buffer := (b : Int), pt := true } m row ((w.setCell ⟨cb, 13, none⟩ (.int .i64 (b : Int))).setCell ⟨cb, 23, none⟩ (.bool true)) := (H.putC 13 (.int .i64 (b : Int)) { c with buffer := (b : Int) } rfl).putC 23 _ _ rfl
  have hc1 : Chg (D3 cb mb rb) w ((w.setCell ⟨cb, 13, none⟩ (.int .i64 (b : Int))).setCell ⟨cb, 23, none⟩ (.bool true)) := d3_c (d3_c (Chg.refl _ _) _ _) _ _
  have HR : Hid (∀ _ : Unit, Calls Tryz.prog 188 #[.pointer (some ⟨mb, 0, none⟩), .pointer (some ⟨cb, 0, none⟩)] ((w.setCell ⟨cb, 13, none⟩ (.int .i64 (b : Int))).setCell ⟨cb, 23, none⟩ (.bool true)) fun e w' => e = .returned (.int .i64 0) ∧ w'.cell? ⟨cb, 18, none⟩ = some (.int .i64 c.why) ∧ w'.frozen? ⟨cb, 18, none⟩ = false ∧ w'.cell? ⟨cb, 9, none⟩ = some (.int .i64 1) ∧ w'.frozen? ⟨cb, 9, none⟩ = false ∧ Hid (Dst cb mb rb { c with buffer := (b : Int), pt := true, why := 0, at_ := 2 } m row ((w'.setCell ⟨cb, 18, none⟩ (.int .i64 0)).setCell ⟨cb, 9, none⟩ (.int .i64 2))) ∧ Hid (Chg (D3 cb mb rb) w ((w'.setCell ⟨cb, 18, none⟩ (.int .i64 0)).setCell ⟨cb, 9, none⟩ (.int .i64 2)))) := fun _ => by
    refine Calls.mono (refusal_at cb mb rb x ib id hb st N cap NS capH b nI capI kd cl _ m row f _ H1 (HE _ hc1) hx hid hl hlt hle hf hf1 0 her) ?_
    rintro e w' ⟨rfl, hb'⟩
    have H2 := H1.below hb'.out
    exact ⟨rfl, H2.cc 18 _ rfl, H2.cf 18, H2.cc 9 _ (by rw [← hat]; rfl), H2.cf 9, (H2.putC 18 (.int .i64 0) { c with buffer := (b : Int), pt := true, why := 0 } rfl).putC 9 _ _ rfl, d3_c (d3_c (hc1.trans (Chg.of_below (S := fun _ => False) hb'.out) (fun x e => e.elim)) _ _) _ _⟩
  have HF : Hid (∀ W, Dst cb mb rb { c with buffer := (b : Int), pt := true, why := 0, at_ := 2 } m row W → Chg (D3 cb mb rb) w W → (W.cell? ⟨mb, 11, none⟩ = some (.slice (some ⟨ib, 0, none⟩) nI capI) ∧ W.cell? ⟨cb, 6, none⟩ = some (.int .i64 (id : Int)) ∧ W.cell? ⟨cb, 13, none⟩ = some (.int .i64 (b : Int)) ∧ W.cell? ⟨cb, 5, none⟩ = some (.pointer (some ⟨x, 0, none⟩)) ∧ W.cell? ⟨x, 0, none⟩ = some (.int .i64 (st : Int)) ∧ W.cell? ⟨ib, id * 14 + 4 + b, none⟩ = some (.slice (some ⟨hb, 0, none⟩) NS capH) ∧ W.cell? ⟨hb, st, none⟩ = some (.slice (some ⟨rb, 0, none⟩) N cap) ∧ W.cell? ⟨cb, 17, none⟩ = some c.tov ∧ W.frozen? ⟨cb, 17, none⟩ = false) ∧ Hid (Dst cb mb rb { c with buffer := (b : Int), pt := true, why := 0, at_ := 2, tov := .slice (some ⟨rb, 0, none⟩) N cap } m row (W.drew.setCell ⟨cb, 17, none⟩ (.slice (some ⟨rb, 0, none⟩) N cap))) ∧ Hid (Chg (D3 cb mb rb) w (W.drew.setCell ⟨cb, 17, none⟩ (.slice (some ⟨rb, 0, none⟩) N cap)))) := fun W h hc => by
    have E := HE W hc
    exact ⟨⟨h.mm 11 _ (by rw [← hl]; rfl), h.cc 6 _ (by rw [← hid]; rfl), h.cc 13 _ rfl, h.cc 5 _ (by rw [← hx]; rfl), E.x0, E.cells, E.row, h.cc 17 _ rfl, h.cf 17⟩, h.drew.putC 17 _ _ rfl, d3_c hc.drew _ _⟩
  have i1 : (id : Int) < (nI : Int) := by omega
  have i2 : (b : Int) < 2 := by omega
  have i3 : (st : Int) < (NS : Int) := by omega
  generalize c.why = y at HR
  clear H H1 HE hat hma hx hid hl hlt hle hf hf1 her hc1 hst hb2
  go_enter Tryz.func145, Tryz.ntmps145
  go_upto_region 12 with (go_at_call 188; with_reducible refine Calls.mono (HR.out ()) ?_; rintro e w2 ⟨rfl, k1, k2, k3, k4, HQ, HC⟩)
  obtain ⟨⟨s1, s2, s3, s4, s5, s6, s7, s8, s9⟩, HQ2, HC2⟩ := HF.out _ HQ.out HC.out
  generalize (w2.setCell ⟨cb, 18, none⟩ (.int .i64 0)).setCell ⟨cb, 9, none⟩ (.int .i64 2) = w3 at *
  go_region
  all_goals
    go_wp2_with fail
    first | go_end0 | refine bodyPost_ret (results_none rfl _ _ _) rfl ?_
    exact ⟨rfl, HQ2, HC2⟩
end Go.Proofs.YtaeapikhhbjlnaaGreatDoor
/- THE DOCUMENT's MACHINE: records, done at once. Own work of the verifier. -/
namespace Go.Proofs.YtaeapikhhbjlnaaGreatDoor
open Go.RowKit

/-- A state. -/
structure StD where
  c : Cl
  m : Mc
  row : List Int
/-- One step leads from a state to the next. -/
structure Trn (cb mb rb : Nat) (w : World) (s s' : StD) : Prop where
  nd : s.c.done = false
  st : s'.c.steps = s.c.steps + 1
  go : ∀ W, Dst cb mb rb s.c s.m s.row W → Chg (D3 cb mb rb) w W → Calls Tryz.prog 95 #[.pointer (some ⟨mb, 0, none⟩), .pointer (some ⟨cb, 0, none⟩)] W fun e w' => e = .returned (.tuple #[]) ∧ Hid (Dst cb mb rb s'.c s'.m s'.row w' ∧ Chg (D3 cb mb rb) w w')
/-- Some steps. -/
inductive RunS (cb mb rb : Nat) (w : World) : Nat → StD → StD → Prop
  | nil (s : StD) : RunS cb mb rb w 0 s s
  | cons {n : Nat} {s s' s'' : StD} : Trn cb mb rb w s s' → RunS cb mb rb w n s' s'' → RunS cb mb rb w (n + 1) s s''
theorem RunS.snoc {cb mb rb : Nat} {w : World} {n : Nat} {s s' s'' : StD} (h : RunS cb mb rb w n s s') (k : Trn cb mb rb w s' s'') : RunS cb mb rb w (n + 1) s s'' := by
  induction h with
  | nil s => exact .cons k (.nil _)
  | cons t _ ih => exact .cons t (ih k)
theorem RunS.steps {cb mb rb : Nat} {w : World} {n : Nat} {s s' : StD} (h : RunS cb mb rb w n s s') : s'.c.steps = s.c.steps + (n : Int) := by
  induction h with
  | nil s => simp
  | cons t _ ih => rw [ih, t.st]; push_cast; omega
/-- Alone, by its steps. -/
theorem alone_run (cb mb rb id nI capI ib K : Nat) (w : World) (s sK : StD) (H : Dst cb mb rb s.c s.m s.row w) (hR : RunS cb mb rb w K s sK) (h0 : s.c.steps = 0) (hd : sK.c.done = true) (hk : s.c.kind = 4 ∨ s.c.kind = 5 ∨ s.c.kind = 6) (hid : s.c.id = (id : Int)) (hl : s.m.l = .slice (some ⟨ib, 0, none⟩) nI capI) (hlt : id < nI) :
    Calls Tryz.prog 49 #[.pointer (some ⟨mb, 0, none⟩), .pointer (some ⟨cb, 0, none⟩)] w fun e w' => e = .returned (.tuple #[]) ∧ Hid (Dst cb mb rb sK.c sK.m sK.row w' ∧ Chg (D3 cb mb rb) w w') := by
  refine Calls.mono (alone_of cb mb w K (fun j W => ∃ t, RunS cb mb rb w j s t ∧ RunS cb mb rb w (K - j) t sK ∧ Dst cb mb rb t.c t.m t.row W ∧ Chg (D3 cb mb rb) w W) ?_ ?_ ?_) ?_
  · refine Calls.mono (begin_any cb mb rb id nI capI ib s.c s.m s.row w H hk hid hl hlt) ?_
    rintro e w' ⟨rfl, rfl⟩
    exact ⟨rfl, s, .nil _, by simpa using hR, H.drew, (Chg.refl _ _).drew⟩
  · rintro j W hj ⟨t, r1, r2, h1, h2⟩
    refine ⟨h1.cc 24 _ ?_, h1.cc 21 _ ?_⟩
    · show some (Value.bool t.c.done) = _
      by_cases e : j = K
      · subst e
        rw [Nat.sub_self] at r2
        cases r2
        rw [hd]; simp
      · obtain ⟨n, hn⟩ : ∃ n, K - j = n + 1 := ⟨K - j - 1, by omega⟩
        rw [hn] at r2
        cases r2 with
        | cons t1 _ => rw [t1.nd]; simp [e]
    · show some (Value.int .i64 t.c.steps) = _
      rw [r1.steps, h0]; simp
  · rintro j W hj ⟨t, r1, r2, h1, h2⟩
    obtain ⟨n, hn⟩ : ∃ n, K - j = n + 1 := ⟨K - j - 1, by omega⟩
    rw [hn] at r2
    cases r2 with
    | cons t1 r3 =>
      refine Calls.mono (t1.go W h1 h2) ?_
      rintro e w' ⟨rfl, q⟩
      exact ⟨rfl, _, r1.snoc t1, by rw [show K - (j + 1) = n by omega]; exact r3, q.out.1, q.out.2⟩
  · rintro e w' ⟨rfl, q⟩
    obtain ⟨t, _, r2, h1, h2⟩ := q.out
    rw [Nat.sub_self] at r2
    cases r2
    exact ⟨rfl, h1, h2⟩
theorem trn_of {cb mb rb : Nat} {w : World} {c c' : Cl} {m m' : Mc} {row row' : List Int} (j : Nat) (hj : j < 100) (hs : c.steps = (j : Int)) (hs' : c'.steps = ((j + 1 : Nat) : Int)) (hnd : c.done = false) (hk : c.kind = 4 ∨ c.kind = 5 ∨ c.kind = 6)
    (HR : ∀ W, Dst cb mb rb { c with steps := ((j + 1 : Nat) : Int), pt := false } m row W → Chg (D3 cb mb rb) w W → Calls Tryz.prog 145 #[.pointer (some ⟨mb, 0, none⟩), .pointer (some ⟨cb, 0, none⟩)] W fun e w' => e = .returned (.tuple #[]) ∧ Hid (Dst cb mb rb c' m' row' w') ∧ Hid (Chg (D3 cb mb rb) W w')) : Trn cb mb rb w ⟨c, m, row⟩ ⟨c', m', row'⟩ :=
  ⟨hnd, by show c'.steps = c.steps + 1; rw [hs, hs']; push_cast; omega, fun W h1 h2 => step_of cb mb rb c m row W h1 hk ((j + 1 : Nat) : Int) (by rw [hs]; unfold wrap64; omega) (fun w' => Dst cb mb rb c' m' row' w' ∧ Chg (D3 cb mb rb) w w') (fun V h3 h4 => by
    have h5 := h2.trans h4 (fun x e => Or.inl e)
    refine Calls.mono (HR V h3 h5) ?_
    rintro e w' ⟨rfl, q1, q2⟩
    exact ⟨rfl, q1.out, h5.trans q2.out (fun x e => Or.inl e)⟩)⟩
theorem rec_lay2 (cb mb rb : Nat) (c : Cl) (m : Mc) (row : List Int) (w : World) (H : Dst cb mb rb c m row w) (h0 : ¬ c.at_ = 0) (h1 : ¬ c.at_ = 1) (h99 : ¬ c.at_ = 99) {P Q : World → Prop}
    (HL : Calls Tryz.prog 189 #[.pointer (some ⟨mb, 0, none⟩), .pointer (some ⟨cb, 0, none⟩)] w fun e w' => e = .returned (.tuple #[]) ∧ Hid (P w') ∧ Hid (Q w')) :
    Calls Tryz.prog 145 #[.pointer (some ⟨mb, 0, none⟩), .pointer (some ⟨cb, 0, none⟩)] w fun e w' => e = .returned (.tuple #[]) ∧ Hid (P w') ∧ Hid (Q w') :=
  Calls.mono (rec_lay cb mb rb c m row w H h0 h1 h99 (fun w' => P w' ∧ Q w') (fun _ => Calls.mono HL (fun _e _w' q => ⟨q.1, q.2.1.out, q.2.2.out⟩))) (fun _e _w' q => ⟨q.1, q.2.out.1, q.2.out.2⟩)
/-- A fresh call. -/
abbrev mkC (kind : Int) (x : Nat) (id n f : Int) : Cl := ⟨kind, x, id, n, f, 0, 0, 0, .slice none 0 0, 0, 0, 0, 0, false, false, 0⟩
/-- The machine behind a record's entering; behind its leaving. -/
abbrev Mc.ent (m : Mc) : Mc := { m with start := wrap64 (m.start + 1) }
section
variable {cb mb rb x ib id hb st N cap NS capH b nI capI : Nat} {kd kind n : Int} {cl : Bool} {m : Mc} {row : List Int} {f : Nat} {w : World}
/-- A record that is refused. -/
theorem alone_no (H : Dst cb mb rb (mkC kind x (id : Int) n (f : Int)) m row w) (HE : ∀ W, Chg (D3 cb mb rb) w W → Ev x ib id hb st rb N cap NS capH b kd cl W) (hb2 : b < 2) (hk : kind = 4 ∨ kind = 5 ∨ kind = 6) (hma : m.a = (b : Int)) (hl : m.l = .slice (some ⟨ib, 0, none⟩) nI capI) (hlt : id < nI) (hle : nI ≤ 1000) (hf1 : f < 18446744073709551616) (er : Int) (her : er = whyF kind kd n f cl) (he : ¬ er = 0) :
    Calls Tryz.prog 49 #[.pointer (some ⟨mb, 0, none⟩), .pointer (some ⟨cb, 0, none⟩)] w fun e w' => e = .returned (.tuple #[]) ∧ Hid ((∃ c', c'.e = er ∧ Dst cb mb rb c' ((m.ent.ref b).left m.start) row w') ∧ Chg (D3 cb mb rb) w w') := by
  have t0 := trn_of (w := w) (c := mkC kind x (id : Int) n (f : Int)) (c' := ⟨kind, x, id, n, f, 1, m.start, 0, .slice none 0 0, 0, 0, 0, ((0 + 1 : Nat) : Int), false, false, 0⟩) (m := m) (m' := m.ent) (row := row) (row' := row) 0 (by decide) rfl rfl rfl hk (fun W h1 h2 => rec_0 cb mb rb _ m row W h1 rfl)
  have t1 := trn_of (w := w) (c := ⟨kind, x, id, n, f, 1, m.start, 0, .slice none 0 0, 0, 0, 0, ((0 + 1 : Nat) : Int), false, false, 0⟩) (c' := ⟨kind, x, id, n, f, 2, m.start, (b : Int), .slice none 0 0, er, 0, 0, ((1 + 1 : Nat) : Int), true, false, 0⟩) (m := m.ent) (m' := m.ent) (row := row) (row' := row) 1 (by decide) rfl rfl rfl hk (fun W h1 h2 => rec_1no cb mb rb x ib id hb st N cap NS capH b nI capI kd cl _ m.ent row f W h1 (fun V hV => HE V (h2.trans hV (fun x e => Or.inl e))) rfl hma rfl rfl hl hlt hle rfl hf1 er her he)
  have t2 := trn_of (w := w) (c := ⟨kind, x, id, n, f, 2, m.start, (b : Int), .slice none 0 0, er, 0, 0, ((1 + 1 : Nat) : Int), true, false, 0⟩) (c' := ⟨kind, x, id, n, f, 99, m.start, (b : Int), .slice none 0 0, er, 0, 0, ((2 + 1 : Nat) : Int), false, false, 0⟩) (m := m.ent) (m' := m.ent.ref b) (row := row) (row' := row) 2 (by decide) rfl rfl rfl hk (fun W h1 h2 => rec_lay2 cb mb rb _ m.ent row W h1 (by show ¬ (2 : Int) = 0; decide) (by show ¬ (2 : Int) = 1; decide) (by show ¬ (2 : Int) = 99; decide) (lay_no cb mb rb b _ m.ent row W h1 hb2 rfl he))
  have t3 := trn_of (w := w) (c := ⟨kind, x, id, n, f, 99, m.start, (b : Int), .slice none 0 0, er, 0, 0, ((2 + 1 : Nat) : Int), false, false, 0⟩) (c' := ⟨kind, x, id, n, f, 99, m.start, (b : Int), .slice none 0 0, er, 0, 0, ((3 + 1 : Nat) : Int), false, true, er⟩) (m := m.ent.ref b) (m' := (m.ent.ref b).left m.start) (row := row) (row' := row) 3 (by decide) rfl rfl rfl hk (fun W h1 h2 => rec_99 cb mb rb _ (m.ent.ref b) row W h1 rfl)
  refine Calls.mono (alone_run cb mb rb id nI capI ib 4 w ⟨_, m, row⟩ _ H (.cons t0 (.cons t1 (.cons t2 (.cons t3 (.nil _))))) rfl rfl hk rfl hl hlt) ?_
  rintro e w' ⟨rfl, q⟩
  exact ⟨rfl, ⟨_, rfl, q.out.1⟩, q.out.2⟩
end
end Go.Proofs.YtaeapikhhbjlnaaGreatDoor
/- THE DOCUMENT's MACHINE: records that are laid, done at once. Own work of the verifier. -/
namespace Go.Proofs.YtaeapikhhbjlnaaGreatDoor
open Go.RowKit

theorem RunS.app {cb mb rb : Nat} {w : World} {n k : Nat} {s s' s'' : StD} (h : RunS cb mb rb w n s s') (g : RunS cb mb rb w k s' s'') : RunS cb mb rb w (n + k) s s'' := by
  induction h with
  | nil s => rw [Nat.zero_add]; exact g
  | cons t _ ih => rw [Nat.add_right_comm]; exact .cons t (ih g)
/-- A call that is laid. -/
abbrev cO (kind : Int) (x : Nat) (id n f at_ ph b : Int) (tov : Value) (told rest : Int) (j : Nat) (pt : Bool) : Cl := ⟨kind, x, id, n, f, at_, ph, b, tov, 0, told, rest, (j : Int), pt, false, 0⟩
abbrev cE (kind : Int) (x : Nat) (id n f ph b : Int) (tov : Value) (told rest : Int) (j : Nat) : Cl := ⟨kind, x, id, n, f, 99, ph, b, tov, 0, told, rest, (j : Int), false, true, 0⟩
theorem run_head {cb mb rb x ib id hb st N cap NS capH b nI capI : Nat} {kd kind n : Int} {cl : Bool} {m : Mc} {row : List Int} {f : Nat} {w : World} (HE : ∀ W, Chg (D3 cb mb rb) w W → Ev x ib id hb st rb N cap NS capH b kd cl W) (hb2 : b < 2) (hst : st < NS) (hk : kind = 4 ∨ kind = 5 ∨ kind = 6) (hma : m.a = (b : Int)) (hl : m.l = .slice (some ⟨ib, 0, none⟩) nI capI) (hlt : id < nI) (hle : nI ≤ 1000) (hf1 : f < 18446744073709551616) (her : 0 = whyF kind kd n f cl) :
    RunS cb mb rb w 2 ⟨mkC kind x (id : Int) n (f : Int), m, row⟩ ⟨cO kind x id n f 2 m.start b (.slice (some ⟨rb, 0, none⟩) N cap) 0 0 2 true, m.ent, row⟩ := by
  have t0 := trn_of (w := w) (c := mkC kind x (id : Int) n (f : Int)) (c' := ⟨kind, x, id, n, f, 1, m.start, 0, .slice none 0 0, 0, 0, 0, ((0 + 1 : Nat) : Int), false, false, 0⟩) (m := m) (m' := m.ent) (row := row) (row' := row) 0 (by decide) rfl rfl rfl hk (fun W h1 h2 => rec_0 cb mb rb _ m row W h1 rfl)
  have t1 := trn_of (w := w) (c := ⟨kind, x, id, n, f, 1, m.start, 0, .slice none 0 0, 0, 0, 0, ((0 + 1 : Nat) : Int), false, false, 0⟩) (c' := cO kind x id n f 2 m.start b (.slice (some ⟨rb, 0, none⟩) N cap) 0 0 2 true) (m := m.ent) (m' := m.ent) (row := row) (row' := row) 1 (by decide) rfl rfl rfl hk (fun W h1 h2 => rec_1ok cb mb rb x ib id hb st N cap NS capH b nI capI kd cl _ m.ent row f W h1 (fun V hV => HE V (h2.trans hV (fun x e => Or.inl e))) hb2 hst rfl hma rfl rfl hl hlt hle rfl hf1 her)
  exact .cons t0 (.cons t1 (.nil _))
section
variable {cb mb rb x : Nat} {kind id n f ph b told rest told' rest' : Int} {tov : Value} {j : Nat} {pt : Bool} {m : Mc} {row row' : List Int} {w : World}
theorem run_tail (hk : kind = 4 ∨ kind = 5 ∨ kind = 6) (hj : j < 100) :
    RunS cb mb rb w 1 ⟨cO kind x id n f 99 ph b tov told rest j pt, m, row⟩ ⟨cE kind x id n f ph b tov told rest (j + 1), m.left ph, row⟩ :=
  .cons (trn_of (w := w) (c := cO kind x id n f 99 ph b tov told rest j pt) (c' := cE kind x id n f ph b tov told rest (j + 1)) (m := m) (m' := m.left ph) (row := row) (row' := row) j hj rfl rfl rfl hk (fun W h1 _h2 => rec_99 cb mb rb _ m row W h1 rfl)) (.nil _)
theorem trn_lay (at_ at_' : Int) (hk : kind = 4 ∨ kind = 5 ∨ kind = 6) (hj : j < 100) (h0 : ¬ at_ = 0) (h1 : ¬ at_ = 1) (h99 : ¬ at_ = 99)
    (HL : ∀ W, Dst cb mb rb (cO kind x id n f at_ ph b tov told rest (j + 1) false) m row W → Chg (D3 cb mb rb) w W → Calls Tryz.prog 189 #[.pointer (some ⟨mb, 0, none⟩), .pointer (some ⟨cb, 0, none⟩)] W fun e w' => e = .returned (.tuple #[]) ∧ Hid (Dst cb mb rb (cO kind x id n f at_' ph b tov told' rest' (j + 1) false) m row' w') ∧ Hid (Chg (D3 cb mb rb) W w')) :
    Trn cb mb rb w ⟨cO kind x id n f at_ ph b tov told rest j pt, m, row⟩ ⟨cO kind x id n f at_' ph b tov told' rest' (j + 1) false, m, row'⟩ :=
  trn_of (w := w) (c := cO kind x id n f at_ ph b tov told rest j pt) (c' := cO kind x id n f at_' ph b tov told' rest' (j + 1) false) (m := m) (m' := m) (row := row) (row' := row') j hj rfl rfl rfl hk (fun W h2 h3 => rec_lay2 cb mb rb _ m row W h2 h0 h1 h99 (HL W h2 h3))
theorem hid2 {P Q : World → Prop} {ff : Nat} {vs : Array Value} {w : World} (h : Calls Tryz.prog ff vs w fun e w' => e = .returned (.tuple #[]) ∧ Hid (P w') ∧ Hid (Q w')) : Calls Tryz.prog ff vs w fun e w' => e = .returned (.tuple #[]) ∧ Hid (P w' ∧ Q w') := Calls.mono h (fun _ _ q => ⟨q.1, q.2.1.out, q.2.2.out⟩)
theorem hid3 {P Q : World → Prop} {ff : Nat} {vs : Array Value} {w : World} (h : Calls Tryz.prog ff vs w fun e w' => e = .returned (.tuple #[]) ∧ Hid (P w' ∧ Q w')) : Calls Tryz.prog ff vs w fun e w' => e = .returned (.tuple #[]) ∧ Hid (P w') ∧ Hid (Q w') := Calls.mono h (fun _ _ q => ⟨q.1, q.2.out.1, q.2.out.2⟩)
/-- A whole number is laid. -/
theorem run_whole (N cap : Nat) (lo hi : Int) (rest' : List Int) (hN : N = rest'.length + 2) (at_ : Int) (hj : j < 90) (hk : kind = 4 ∨ kind = 5) (hat : at_ = 3 ∨ kind = 4 ∧ at_ = 2) (hl : In64 lo) (hn0 : 0 ≤ n) (hn1 : n < 9223372036854775808) :
    ∃ K jj, RunS cb mb rb w K ⟨cO kind x id n f at_ ph b (.slice (some ⟨rb, 0, none⟩) N cap) told rest j pt, m, lo :: hi :: rest'⟩ ⟨cE kind x id n f ph b (.slice (some ⟨rb, 0, none⟩) N cap) told rest jj, m.left ph, adW (lo :: hi :: rest') n⟩ := by
  have hk3 : kind = 4 ∨ kind = 5 ∨ kind = 6 := by rcases hk with h | h; exact Or.inl h; exact Or.inr (Or.inl h)
  have hc := adW_carry (lo := lo) (_hi := hi) (n := n) (_r := rest') hl hn0 hn1
  have ne2 : ¬ at_ = 0 ∧ ¬ at_ = 1 ∧ ¬ at_ = 99 ∧ ¬ at_ = 50 := by rcases hat with rfl | ⟨_, rfl⟩ <;> decide
  have hk4 : kind = 4 ∨ kind = 5 ∧ ¬ at_ = 2 := by
    rcases hat with rfl | ⟨h, _⟩
    · rcases hk with h | h
      · exact Or.inl h
      · exact Or.inr ⟨h, by decide⟩
    · exact Or.inl h
  obtain ⟨nx, hnx⟩ : ∃ nx : Int, nx = if uw (wrap64 (lo + n)) < uw lo then 50 else 99 := ⟨_, rfl⟩
  have t1 : Trn cb mb rb w ⟨cO kind x id n f at_ ph b (.slice (some ⟨rb, 0, none⟩) N cap) told rest j pt, m, lo :: hi :: rest'⟩ ⟨cO kind x id n f nx ph b (.slice (some ⟨rb, 0, none⟩) N cap) told rest (j + 1) false, m, wrap64 (lo + n) :: hi :: rest'⟩ :=
    trn_lay at_ nx hk3 (by omega) ne2.1 ne2.2.1 ne2.2.2.1 (fun W h2 h3 => hid3 (lay_whole cb mb rb _ m _ W h2 rfl hk4 _ (fun _ => hid2 (whole_lo cb mb rb _ m lo hi rest' N cap (by omega) W h2 ne2.2.2.2 rfl nx hnx))))
  by_cases h : 18446744073709551616 ≤ uw lo + n
  · rw [if_pos (hc.2 h)] at hnx
    subst hnx
    have e : adW (lo :: hi :: rest') n = wrap64 (lo + n) :: wrap64 (hi + 1) :: rest' := by simp only [adW, if_pos h]
    rw [e]
    subst hN
    have t2 : Trn cb mb rb w ⟨cO kind x id n f 50 ph b (.slice (some ⟨rb, 0, none⟩) (rest'.length + 2) cap) told rest (j + 1) false, m, wrap64 (lo + n) :: hi :: rest'⟩ ⟨cO kind x id n f 99 ph b (.slice (some ⟨rb, 0, none⟩) (rest'.length + 2) cap) told rest (j + 1 + 1) false, m, wrap64 (lo + n) :: wrap64 (hi + 1) :: rest'⟩ :=
      trn_lay 50 99 hk3 (by omega) (by decide) (by decide) (by decide) (fun W h2 h3 => hid3 (lay_whole cb mb rb _ m _ W h2 rfl (by rcases hk with h | h; exact Or.inl h; exact Or.inr ⟨h, (by decide : ¬ (50 : Int) = 2)⟩) _ (fun _ => hid2 (whole_50 cb mb rb _ m (wrap64 (lo + n)) hi rest' cap W h2 rfl rfl))))
    exact ⟨_, _, .cons t1 (.cons t2 (run_tail hk3 (by omega)))⟩
  · rw [if_neg (fun g => h (hc.1 g))] at hnx
    subst hnx
    have e : adW (lo :: hi :: rest') n = wrap64 (lo + n) :: hi :: rest' := by simp only [adW, if_neg h]
    rw [e]
    exact ⟨_, _, .cons t1 (run_tail hk3 (by omega))⟩
/-- The row of a summary behind a float, as the document has it. -/
def smD (k : Int) (s cc mn mx v : Nat) : List Int := sRow (wrap64 (k + 1)) (Soft.fa s v) (Soft.fa cc (Soft.fl s v)) (if keyN v < keyN mn then v else mn) (if keyN mx < keyN v then v else mx)
theorem run_float (cap : Nat) (k : Int) (s cc mn mx v : Nat) (hj : j = 2) (hv : v < 18446744073709551616) (hs : s < 18446744073709551616) (hcc : cc < 18446744073709551616) (hmn : mn < 18446744073709551616) (hmx : mx < 18446744073709551616) (hf : f = (v : Int)) (hk6 : kind = 6) :
    ∃ K jj told' rest', RunS cb mb rb w K ⟨cO kind x id n f 2 ph b (.slice (some ⟨rb, 0, none⟩) 5 cap) told rest j pt, m, sRow k s cc mn mx⟩ ⟨cE kind x id n f ph b (.slice (some ⟨rb, 0, none⟩) 5 cap) told' rest' jj, m.left ph, smD k s cc mn mx v⟩ := by
  have hk : kind = 4 ∨ kind = 5 ∨ kind = 6 := Or.inr (Or.inr hk6)
  subst hj
  have t2 : Trn cb mb rb w ⟨cO kind x id n f 2 ph b (.slice (some ⟨rb, 0, none⟩) 5 cap) told rest 2 pt, m, sRow k s cc mn mx⟩ ⟨cO kind x id n f 3 ph b (.slice (some ⟨rb, 0, none⟩) 5 cap) told rest 3 false, m, sRow (wrap64 (k + 1)) s cc mn mx⟩ :=
    trn_lay 2 3 hk (by omega) (by decide) (by decide) (by decide) (fun W h2 h3 => hid3 (lay_float cb mb rb _ m _ W h2 rfl hk6 _ (fun _ => hid2 (float_2 cb mb rb _ m k s cc mn mx cap W h2 rfl rfl))))
  unfold smD
  generalize wrap64 (k + 1) = k1 at *
  have t3 : Trn cb mb rb w ⟨cO kind x id n f 3 ph b (.slice (some ⟨rb, 0, none⟩) 5 cap) told rest 3 false, m, sRow k1 s cc mn mx⟩ ⟨cO kind x id n f 4 ph b (.slice (some ⟨rb, 0, none⟩) 5 cap) s rest 4 false, m, sRow k1 s cc mn mx⟩ :=
    trn_lay 3 4 hk (by omega) (by decide) (by decide) (by decide) (fun W h2 h3 => hid3 (lay_float cb mb rb _ m _ W h2 rfl hk6 _ (fun _ => hid2 (float_3 cb mb rb _ m k1 s cc mn mx cap W h2 rfl rfl hs))))
  have t4 : Trn cb mb rb w ⟨cO kind x id n f 4 ph b (.slice (some ⟨rb, 0, none⟩) 5 cap) s rest 4 false, m, sRow k1 s cc mn mx⟩ ⟨cO kind x id n f 5 ph b (.slice (some ⟨rb, 0, none⟩) 5 cap) s cc 5 false, m, sRow k1 s cc mn mx⟩ :=
    trn_lay 4 5 hk (by omega) (by decide) (by decide) (by decide) (fun W h2 h3 => hid3 (lay_float cb mb rb _ m _ W h2 rfl hk6 _ (fun _ => hid2 (float_4 cb mb rb _ m k1 s cc mn mx cap W h2 rfl rfl hcc))))
  have t5 : Trn cb mb rb w ⟨cO kind x id n f 5 ph b (.slice (some ⟨rb, 0, none⟩) 5 cap) s cc 5 false, m, sRow k1 s cc mn mx⟩ ⟨cO kind x id n f 6 ph b (.slice (some ⟨rb, 0, none⟩) 5 cap) s cc 6 false, m, sRow k1 (Soft.fa s v) cc mn mx⟩ :=
    trn_lay 5 6 hk (by omega) (by decide) (by decide) (by decide) (fun W h2 h3 => hid3 (lay_float cb mb rb _ m _ W h2 rfl hk6 _ (fun _ => hid2 (float_5 cb mb rb _ m k1 s cc mn mx cap W h2 rfl rfl s cc v rfl rfl hf hs hcc hv))))
  have t6 : Trn cb mb rb w ⟨cO kind x id n f 6 ph b (.slice (some ⟨rb, 0, none⟩) 5 cap) s cc 6 false, m, sRow k1 (Soft.fa s v) cc mn mx⟩ ⟨cO kind x id n f 7 ph b (.slice (some ⟨rb, 0, none⟩) 5 cap) s cc 7 false, m, sRow k1 (Soft.fa s v) (Soft.fa cc (Soft.fl s v)) mn mx⟩ :=
    trn_lay 6 7 hk (by omega) (by decide) (by decide) (by decide) (fun W h2 h3 => hid3 (lay_float cb mb rb _ m _ W h2 rfl hk6 _ (fun _ => hid2 (float_6 cb mb rb _ m k1 (Soft.fa s v) cc mn mx cap W h2 rfl rfl s cc v rfl rfl hf hs hcc hv))))
  generalize Soft.fa s v = s1 at *
  generalize Soft.fa cc (Soft.fl s v) = c1 at *
  have tl : ∀ (i mn' : Nat), i < 50 → mn' < 18446744073709551616 → ∃ K jj, RunS cb mb rb w K ⟨cO kind x id n f 9 ph b (.slice (some ⟨rb, 0, none⟩) 5 cap) s cc i false, m, sRow k1 s1 c1 mn' mx⟩ ⟨cE kind x id n f ph b (.slice (some ⟨rb, 0, none⟩) 5 cap) s cc jj, m.left ph, sRow k1 s1 c1 mn' (if keyN mx < keyN v then v else mx)⟩ := fun i mn' hi hm' => by
    obtain ⟨nx, hnx⟩ : ∃ nx : Int, nx = if keyN mx < keyN v then 10 else 99 := ⟨_, rfl⟩
    have t9 : Trn cb mb rb w ⟨cO kind x id n f 9 ph b (.slice (some ⟨rb, 0, none⟩) 5 cap) s cc i false, m, sRow k1 s1 c1 mn' mx⟩ ⟨cO kind x id n f nx ph b (.slice (some ⟨rb, 0, none⟩) 5 cap) s cc (i + 1) false, m, sRow k1 s1 c1 mn' mx⟩ :=
      trn_lay 9 nx hk (by omega) (by decide) (by decide) (by decide) (fun W h2 h3 => hid3 (lay_float cb mb rb _ m _ W h2 rfl hk6 _ (fun _ => hid2 (float_9 cb mb rb _ m k1 s1 c1 mn' mx cap W h2 rfl rfl v hf hv hm' hmx nx hnx))))
    by_cases h : keyN mx < keyN v
    · rw [if_pos h] at hnx ⊢
      subst hnx
      have t10 : Trn cb mb rb w ⟨cO kind x id n f 10 ph b (.slice (some ⟨rb, 0, none⟩) 5 cap) s cc (i + 1) false, m, sRow k1 s1 c1 mn' mx⟩ ⟨cO kind x id n f 99 ph b (.slice (some ⟨rb, 0, none⟩) 5 cap) s cc (i + 1 + 1) false, m, sRow k1 s1 c1 mn' v⟩ :=
        trn_lay 10 99 hk (by omega) (by decide) (by decide) (by decide) (fun W h2 h3 => hid3 (lay_float cb mb rb _ m _ W h2 rfl hk6 _ (fun _ => hid2 (float_10 cb mb rb _ m k1 s1 c1 mn' mx cap W h2 rfl rfl v hf hv hm' hmx))))
      exact ⟨_, _, .cons t9 (.cons t10 (run_tail hk (by omega)))⟩
    · rw [if_neg h] at hnx ⊢
      subst hnx
      exact ⟨_, _, .cons t9 (run_tail hk (by omega))⟩
  obtain ⟨nx, hnx⟩ : ∃ nx : Int, nx = if keyN v < keyN mn then 8 else 9 := ⟨_, rfl⟩
  have t7 : Trn cb mb rb w ⟨cO kind x id n f 7 ph b (.slice (some ⟨rb, 0, none⟩) 5 cap) s cc 7 false, m, sRow k1 s1 c1 mn mx⟩ ⟨cO kind x id n f nx ph b (.slice (some ⟨rb, 0, none⟩) 5 cap) s cc 8 false, m, sRow k1 s1 c1 mn mx⟩ :=
    trn_lay 7 nx hk (by omega) (by decide) (by decide) (by decide) (fun W h2 h3 => hid3 (lay_float cb mb rb _ m _ W h2 rfl hk6 _ (fun _ => hid2 (float_7 cb mb rb _ m k1 s1 c1 mn mx cap W h2 rfl rfl v hf hv hmn hmx nx hnx))))
  by_cases h : keyN v < keyN mn
  · rw [if_pos h] at hnx ⊢
    subst hnx
    have t8 : Trn cb mb rb w ⟨cO kind x id n f 8 ph b (.slice (some ⟨rb, 0, none⟩) 5 cap) s cc 8 false, m, sRow k1 s1 c1 mn mx⟩ ⟨cO kind x id n f 9 ph b (.slice (some ⟨rb, 0, none⟩) 5 cap) s cc 9 false, m, sRow k1 s1 c1 v mx⟩ :=
      trn_lay 8 9 hk (by omega) (by decide) (by decide) (by decide) (fun W h2 h3 => hid3 (lay_float cb mb rb _ m _ W h2 rfl hk6 _ (fun _ => hid2 (float_8 cb mb rb _ m k1 s1 c1 mn mx cap W h2 rfl rfl v hf hv hmn hmx))))
    obtain ⟨K, jj, r⟩ := tl 9 v (by decide) hv
    exact ⟨_, _, _, _, .cons t2 (.cons t3 (.cons t4 (.cons t5 (.cons t6 (.cons t7 (.cons t8 r))))))⟩
  · rw [if_neg h] at hnx ⊢
    subst hnx
    obtain ⟨K, jj, r⟩ := tl 8 mn (by decide) hmn
    exact ⟨_, _, _, _, .cons t2 (.cons t3 (.cons t4 (.cons t5 (.cons t6 (.cons t7 r)))))⟩
end
/-- Alone, of a record that is laid. -/
theorem alone_laid {cb mb rb x ib id nI capI : Nat} {kind n : Int} {f : Nat} {m : Mc} {row row' : List Int} {w : World} {K _jj : Nat} {c' : Cl} {m' : Mc} (H : Dst cb mb rb (mkC kind x (id : Int) n (f : Int)) m row w) (hk : kind = 4 ∨ kind = 5 ∨ kind = 6) (hl : m.l = .slice (some ⟨ib, 0, none⟩) nI capI) (hlt : id < nI) (hR : RunS cb mb rb w K ⟨mkC kind x (id : Int) n (f : Int), m, row⟩ ⟨c', m', row'⟩) (hd : c'.done = true) (he : c'.e = 0) :
    Calls Tryz.prog 49 #[.pointer (some ⟨mb, 0, none⟩), .pointer (some ⟨cb, 0, none⟩)] w fun e w' => e = .returned (.tuple #[]) ∧ Hid ((∃ c', c'.e = 0 ∧ Dst cb mb rb c' m' row' w') ∧ Chg (D3 cb mb rb) w w') := by
  refine Calls.mono (alone_run cb mb rb id nI capI ib K w ⟨_, m, row⟩ _ H hR rfl hd hk rfl hl hlt) ?_
  rintro e w' ⟨rfl, q⟩
  exact ⟨rfl, ⟨_, he, q.out.1⟩, q.out.2⟩
section
variable {cb mb rb x ib id hb st N cap NS capH b nI capI : Nat} {kd n : Int} {cl : Bool} {m : Mc} {f : Nat} {w : World}
theorem alone_add {lo hi : Int} {rest : List Int} (H : Dst cb mb rb (mkC 4 x (id : Int) n (f : Int)) m (lo :: hi :: rest) w) (HE : ∀ W, Chg (D3 cb mb rb) w W → Ev x ib id hb st rb N cap NS capH b kd cl W) (hb2 : b < 2) (hst : st < NS) (hma : m.a = (b : Int)) (hl : m.l = .slice (some ⟨ib, 0, none⟩) nI capI) (hlt : id < nI) (hle : nI ≤ 1000) (hf1 : f < 18446744073709551616) (her : 0 = whyF 4 kd n f cl) (hN : N = rest.length + 2) (h1 : In64 lo) (hn0 : 0 ≤ n) (hn1 : n < 9223372036854775808) :
    Calls Tryz.prog 49 #[.pointer (some ⟨mb, 0, none⟩), .pointer (some ⟨cb, 0, none⟩)] w fun e w' => e = .returned (.tuple #[]) ∧ Hid ((∃ c', c'.e = 0 ∧ Dst cb mb rb c' (m.ent.left m.start) (adW (lo :: hi :: rest) n) w') ∧ Chg (D3 cb mb rb) w w') := by
  obtain ⟨K, jj, r⟩ := run_whole (cb := cb) (mb := mb) (rb := rb) (x := x) (kind := 4) (id := id) (n := n) (f := f) (ph := m.start) (b := b) (told := 0) (rest := 0) (j := 2) (pt := true) (m := m.ent) (w := w) N cap lo hi rest hN 2 (by decide) (Or.inl rfl) (Or.inr ⟨rfl, rfl⟩) h1 hn0 hn1
  exact alone_laid (_jj := jj) H (Or.inl rfl) hl hlt ((run_head HE hb2 hst (Or.inl rfl) hma hl hlt hle hf1 her).app r) rfl rfl
theorem alone_obs {p v : Nat} {row : List Int} (H : Dst cb mb rb (mkC 5 x (id : Int) (v : Int) (f : Int)) m row w) (HE : ∀ W, Chg (D3 cb mb rb) w W → Ev x ib id hb st rb N cap NS capH b kd cl W) (hb2 : b < 2) (hst : st < NS) (hma : m.a = (b : Int)) (hl : m.l = .slice (some ⟨ib, 0, none⟩) nI capI) (hlt : id < nI) (hle : nI ≤ 1000) (hf1 : f < 18446744073709551616) (her : 0 = whyF 5 kd (v : Int) f cl) (hp : m.pr = (p : Int)) (hp1 : 1 ≤ p) (hp2 : p ≤ 14) (hv1 : v < 9223372036854775808) (hr : row.length = N) (hN : N = Lg (p : Int) + 2) (hws : Ws row) :
    Calls Tryz.prog 49 #[.pointer (some ⟨mb, 0, none⟩), .pointer (some ⟨cb, 0, none⟩)] w fun e w' => e = .returned (.tuple #[]) ∧ Hid ((∃ c', c'.e = 0 ∧ Dst cb mb rb c' (m.ent.left m.start) (obW p row v) w') ∧ Chg (D3 cb mb rb) w w') := by
  have t2 : Trn cb mb rb w ⟨cO 5 x id v f 2 m.start b (.slice (some ⟨rb, 0, none⟩) N cap) 0 0 2 true, m.ent, row⟩ ⟨cO 5 x id v f 3 m.start b (.slice (some ⟨rb, 0, none⟩) N cap) 0 0 3 false, m.ent, inc row (2 + ixF p v)⟩ :=
    trn_lay 2 3 (Or.inr (Or.inl rfl)) (by decide) (by decide) (by decide) (by decide) (fun W h2 h3 => lay_bucket cb mb rb p v N cap _ m.ent row W h2 rfl rfl rfl hp hp1 hp2 rfl hv1 rfl hr hN)
  have hil := inc_len row (2 + ixF p v)
  have hiw : Ws (inc row (2 + ixF p v)) := hws.inc _
  unfold obW
  generalize inc row (2 + ixF p v) = row1 at *
  rcases row1 with _ | ⟨lo, _ | ⟨hi, rest⟩⟩
  · simp at hil; omega
  · simp at hil; omega
  · obtain ⟨K, jj, r⟩ := run_whole (cb := cb) (mb := mb) (rb := rb) (x := x) (kind := 5) (id := id) (n := (v : Int)) (f := f) (ph := m.start) (b := b) (told := 0) (rest := 0) (j := 3) (pt := false) (m := m.ent) (w := w) N cap lo hi rest (by simp at hil; omega) 3 (by decide) (Or.inr rfl) (Or.inl rfl) (hiw lo (by simp)) (by omega) (by omega)
    exact alone_laid (_jj := jj) H (Or.inr (Or.inl rfl)) hl hlt ((run_head HE hb2 hst (Or.inr (Or.inl rfl)) hma hl hlt hle hf1 her).app (.cons t2 r)) rfl rfl
theorem alone_sam {k : Int} {s cc mn mx : Nat} (H : Dst cb mb rb (mkC 6 x (id : Int) n (f : Int)) m (sRow k s cc mn mx) w) (HE : ∀ W, Chg (D3 cb mb rb) w W → Ev x ib id hb st rb 5 cap NS capH b kd cl W) (hb2 : b < 2) (hst : st < NS) (hma : m.a = (b : Int)) (hl : m.l = .slice (some ⟨ib, 0, none⟩) nI capI) (hlt : id < nI) (hle : nI ≤ 1000) (hf1 : f < 18446744073709551616) (her : 0 = whyF 6 kd n f cl) (hs : s < 18446744073709551616) (hcc : cc < 18446744073709551616) (hmn : mn < 18446744073709551616) (hmx : mx < 18446744073709551616) :
    Calls Tryz.prog 49 #[.pointer (some ⟨mb, 0, none⟩), .pointer (some ⟨cb, 0, none⟩)] w fun e w' => e = .returned (.tuple #[]) ∧ Hid ((∃ c', c'.e = 0 ∧ Dst cb mb rb c' (m.ent.left m.start) (smD k s cc mn mx f) w') ∧ Chg (D3 cb mb rb) w w') := by
  obtain ⟨K, jj, t, u, r⟩ := run_float (cb := cb) (mb := mb) (rb := rb) (x := x) (kind := 6) (id := id) (n := n) (f := f) (ph := m.start) (b := b) (told := 0) (rest := 0) (j := 2) (pt := true) (m := m.ent) (w := w) cap k s cc mn mx f rfl hf1 hs hcc hmn hmx rfl rfl
  exact alone_laid (_jj := jj) H (Or.inr (Or.inr rfl)) hl hlt ((run_head HE hb2 hst (Or.inr (Or.inr rfl)) hma hl hlt hle hf1 her).app r) rfl rfl
end
end Go.Proofs.YtaeapikhhbjlnaaGreatDoor
