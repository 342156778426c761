/- RealPrints: THE WALK, THE ROW AND THE CARD. Own work of the verifier. -/
import Derived.Test.YtmejmohambhaaaaGreatDoorBND
import Derived.Test.YtmejmohambhaaaaGreatDoorL19
import Derived.Test.YtmejmohambhaaaaGreatDoorD2
import Derived.WalkMore
import Derived.HandedShaped
import Derived.Shelf.Vars
import Derived.Lib.SmallJoins
import Derived.Carry
import Derived.SizedLaws
import Derived.ProofKit
import Derived.OpenShut
import Derived.ChangeSlices
namespace Go.Proofs.YtmejmohambhaaaaGreatDoor
open Go.RowKit Soft

set_option maxHeartbeats 400000 in
theorem dmay_any (x : Nat) (hx : x < 18446744073709551616) (w : World) :
    Calls Tryz.prog 10 #[.float .f64 x] w fun e w' => e = .returned (.bool (decide (x % 9223372036854775808 ≤ 8930638061075693568))) ∧ w' = w := by
  have hm := mf64bits x
  have hc := clear_sign x hx
  have hy : x % 9223372036854775808 < 9223372036854775808 := Nat.mod_lt _ (by decide)
  generalize x % 9223372036854775808 = y at *
  by_cases h : y ≤ 8930638061075693568
  · have h' : (y : Int) ≤ 8930638061075693568 := by omega
    rw [decide_eq_true h]
    as_aux_lemma =>
      go_enter Tryz.func10, Tryz.ntmps10
      go_wp2_with fail
      go_ret
      exact ⟨rfl, rfl⟩
  · have h' : ¬ (y : Int) ≤ 8930638061075693568 := by omega
    rw [decide_eq_false h]
    as_aux_lemma =>
      go_enter Tryz.func10, Tryz.ntmps10
      go_wp2_with fail
      go_ret
      exact ⟨rfl, rfl⟩
/-- Words, one behind the other. -/
def RowW (w : World) (b o : Nat) (L : List Nat) : Prop := ∀ i (h : i < L.length), w.cell? ⟨b, o + i, none⟩ = some (.int .u64 ((L[i] : Nat) : Int))
theorem RowW.below {w w1 : World} {b o : Nat} {L : List Nat} (h : RowW w b o L) (hb : Below w.heap.size w w1) : RowW w1 b o L := fun i hi => by
  rw [hb.cell (p := ⟨b, o + i, none⟩) (lt_of_cell (h i hi))]; exact h i hi
/-- What the walk keeps. -/
def KP (w : World) (b o : Nat) (L : List Nat) (W : World) : Prop := Glob2 W ∧ RowW W b o L ∧ Below w.heap.size w W
theorem keepP {w W W1 : World} {b o : Nat} {L : List Nat} (hb : Below W.heap.size W W1) (h : KP w b o L W) : KP w b o L W1 := ⟨h.1.below hb, h.2.1.below hb, h.2.2.trans (hb.mono h.2.2.size)⟩
set_option maxHeartbeats 2000000 in
set_option maxRecDepth 100000 in
theorem prints_walk (ao : Option Addr) (b o cap : Nat) (L : List Nat) (hao : L ≠ [] → ao = some ⟨b, o, none⟩) (hL : ∀ x ∈ L, x < 18446744073709551616) (hlen : L.length * 8 ≤ 140737488355328) (w : World) (hP : P10 w) (hK : KP w b o L w) :
    Calls Tryz.prog 3 #[.slice ao L.length cap] w fun e w' => e = .returned (.bool true) ∧ Below w.heap.size w w' := by
  have HA : Hid (Calls Tryz.prog 5 #[] w fun e w' => e = .returned (.bool true) ∧ KP w b o L w') := (awake_any w hK.1.glob hP).mono fun e w' k => ⟨k.1, keepP k.2 hK⟩
  have HPr : Hid (∀ u, u < 18446744073709551616 → ∀ W, KP w b o L W → Calls Tryz.prog 7 #[.float .f64 u] W fun e w' => e = .returned (.string ⟨(pText u).toArray⟩) ∧ KP w b o L w') := fun u hu W h => (print_all u hu W h.1).mono fun e w' k => ⟨k.1, keepP k.2 h⟩
  have HDp : Hid (∀ u, u < 18446744073709551616 → ∀ W, KP w b o L W → Calls Tryz.prog 8 #[.float .f64 u] W fun e w' => e = .returned (.string ⟨(pText u).toArray⟩) ∧ KP w b o L w') := fun u hu W h => (dprint_any u hu W).mono fun e w' ⟨l, he, hl, hb⟩ => ⟨by rw [he, doc_text u hu l hl], keepP hb h⟩
  clear hP hK
  go_enter Tryz.func3, Tryz.ntmps3
  go_wp2_with fail
  refine Calls.mono HA.out ?_
  rintro e w1 ⟨rfl, HK1⟩
  clear HA
  have HK1' : Hid _ := HK1
  clear HK1
  go_wp2_with fail
  go_loopw [10] (fun i W => ∃ k : Nat, k ≤ L.length ∧ i = .int .i64 (k : Int) ∧ Hid (KP w b o L W)) (fun i _ => L.length - (intOf i).toNat)
  case atStart => exact ⟨0, by omega, rfl, HK1'⟩
  case round =>
    clear HK1'
    obtain ⟨k, hk, rfl, HKr⟩ := hrel
    by_cases hlt : k < L.length
    · obtain rfl := hao (by intro k; rw [k] at hlt; simp at hlt)
      have hx : L[k] < 18446744073709551616 := hL _ (List.getElem_mem hlt)
      have q2 : wr.cell? ⟨b, o + k, none⟩ = some (.int .u64 ((L[k] : Nat) : Int)) := HKr.out.2.1 k hlt
      have hlt' : (k : Int) < (L.length : Int) := by omega
      generalize L[k] = x at *
      have hfr := mf64from (x : Int)
      rw [Int.toNat_natCast] at hfr
      have HP1 : Hid _ := HPr.out x hx
      have HD1 : Hid _ := HDp.out x hx
      have HM1 : Hid _ := may_any x hx
      have HM2 : Hid _ := dmay_any x hx
      generalize pText x = T at *
      generalize decide (x % 9223372036854775808 ≤ 8930638061075693568) = mb at *
      clear HPr HDp
      as_aux_lemma =>
        go_wp2_with fail
        refine (HP1.out _ HKr.out).mono ?_
        rintro e w2 ⟨rfl, HK2⟩
        have HK2' : Hid _ := HK2
        clear HK2
        go_wp2_with fail
        refine (HD1.out _ HK2'.out).mono ?_
        rintro e w3 ⟨rfl, HK3⟩
        have HK3' : Hid _ := HK3
        clear HK3
        go_wp2_with fail
        refine (HM1.out _).mono ?_
        rintro e w4 ⟨rfl, rfl⟩
        go_wp2_with fail
        refine (HM2.out _).mono ?_
        rintro e w5 ⟨rfl, rfl⟩
        go_wp2_with fail
        exact ⟨⟨k + 1, by omega, by go_num, HK3'⟩, by simp [intOf]; omega⟩
    · obtain rfl : k = L.length := by omega
      have hlt' : ¬ (L.length : Int) < (L.length : Int) := by omega
      have hB := HKr.out.2.2
      as_aux_lemma =>
        go_wp2_with fail
        go_ret
        exact ⟨rfl, hB⟩
end Go.Proofs.YtmejmohambhaaaaGreatDoor
namespace Go.Proofs.YtmejmohambhaaaaGreatDoor
open Go.ChangeShapes Go.WideShapes Go.ChangeAt Go.RowKit Go.Joins

theorem laidOutP : laidOutB Tryz.prog = true := by kernel_rfl
theorem cellsW : Tryz.prog.cellsOf 24 = 1 := by kernel_rfl
theorem bytesW : Tryz.prog.bytesOf 24 = 8 := by kernel_rfl
section
variable {H : Type} {enc : TypeId × Value → H}
theorem nat_of_w {n : Int} (h : (Lit.int .u64 n).wf = true) : ∃ k : Nat, n = (k : Int) ∧ k < 18446744073709551616 := by
  have hx : 0 ≤ n ∧ n ≤ 18446744073709551615 := by simpa [Lit.wf, IntKind.min, IntKind.max, IntKind.signed, IntKind.bits] using h
  exact ⟨n.toNat, by omega, by omega⟩
set_option maxRecDepth 100000 in
/-- A row of words, opened. -/
theorem open_words {W : World} {base : Nat} {v : Value} {d : DataW H} {p : List MemPlace} (hv : Value.okWide Tryz.prog W .any base 22 v) (h : DataW.Trod enc Tryz.prog W 0 (fun _ => true) true 22 v d p)
    (hw : (d.weights Tryz.prog 22).all (· ≤ reachBytes) = true) :
    ∃ (ao : Option Addr) (b o cap : Nat) (L : List Nat), v = .slice ao L.length cap ∧ (L ≠ [] → ao = some ⟨b, o, none⟩) ∧ (∀ x ∈ L, x < 18446744073709551616) ∧ L.length * 8 ≤ 140737488351232 ∧ RowW W b o L := by
  obtain ⟨a0, len, cap, rfl⟩ := okWide_slice Tryz.underlying22 hv
  obtain ⟨fuel, hf⟩ := h
  rcases open_ints Tryz.underlying22 Tryz.underlying24 cellsW hf with ⟨hcs, hx⟩ | ⟨a, len', cap', zs, hcs, _, hl, hm, hz, hx, hcell, hwz⟩
  · simp [Value.cells] at hcs
    obtain ⟨rfl, rfl, rfl⟩ := hcs
    exact ⟨none, 0, 0, 0, [], rfl, fun k => absurd rfl k, (fun x hx => by cases hx), by decide, (fun i hi => by simp at hi)⟩
  · simp [Value.cells] at hcs
    obtain ⟨rfl, rfl, rfl⟩ := hcs
    simp only [Prod.mk.injEq] at hx
    obtain ⟨rfl, rfl⟩ := hx
    simp only [if_true] at hz
    have hlen : ((zs.take len).map Int.toNat).length = len := by simp; omega
    obtain ⟨b, off, spot⟩ := a
    refine ⟨some ⟨b, off, spot⟩, b, off, cap, (zs.take len).map Int.toNat, by rw [hlen], ?_, ?_, ?_, ?_⟩
    · intro hne
      have h0 : 0 < zs.length := by
        rcases Nat.eq_zero_or_pos zs.length with k | k
        · exact absurd (by rw [List.length_eq_zero_iff.1 k]; simp) hne
        · exact k
      have hs : spot = none := by simpa [Addr.add] using World.cell?_spot (hcell 0 h0)
      rw [hs]
    · intro x hx
      obtain ⟨z, hz1, rfl⟩ := List.mem_map.1 hx
      obtain ⟨k, rfl, hk⟩ := nat_of_w (hwz z (List.mem_of_mem_take hz1))
      simpa using hk
    · rw [hlen]
      simp only [DataW.weights, Tryz.underlying22, bytesW, List.all_cons, Bool.and_eq_true, decide_eq_true_eq, lits, List.length_map, List.length_take, List.length_drop] at hw
      have := hw.1
      unfold reachBytes at this
      omega
    · intro i hi
      rw [hlen] at hi
      have hi' : i < zs.length := by omega
      have hs : spot = none := by simpa [Addr.add] using World.cell?_spot (hcell 0 (by omega))
      have hc := hcell i hi'
      subst hs
      rw [Addr.add_lit] at hc
      rw [hc]
      obtain ⟨k, hk, _⟩ := nat_of_w (hwz _ (List.getElem_mem hi'))
      simp [List.getD, hi', hk]
end
/-- The world's shape kept beside what the row lists. -/
theorem returns_and_shaped2 {H : Type} {enc : TypeId × Value → H} {a : Assume} {C : Checked} {os : Os} {f : FuncId} {fn : Func} {s : ChangeSpec} {conds : List PathCond} {apart fresh handsOn again : Bool} {X : World → Array Value → Prop}
    (hX : ∀ (w w' : World) (args : Array Value), w.heap = w'.heap → X w args → X w' args)
    (own : ownKnob C.prog.godebug = none) (started : os.Started) (noInit : C.prog.inits.idxOf? f = none) (hfn : C.prog.funcs[f]? = some fn)
    (witness : ∃ (w : World) (tape : Tape) (i : Input), w.os = os ∧ (w.forCall tape i).Shaped C.prog ∧ i.vars = [] ∧ Input.okWide C.prog (w.forCall tape i) .any w.heap.size f i ∧
      ((s.pre enc C.prog fn conds apart (w.forCall tape i).memory i.args ∧ X (w.forCall tape i).memory i.args) ∧ sizedMet enc C.prog fn (OpenSpec.ofChange s) apart (w.forCall tape i).memory i.args) ∧ a.holds C.prog (lone (Frame.enter C.prog f i.args .normal) [] (w.forCall tape i)))
    (contract : ∀ (W : World) (base : Nat) (args : Array Value) (ds gs : List (DataW H)) (before : List MemPlace),
      (∀ (j : Nat) t v, fn.params[j]? = some t → args[j]? = some v → Value.okWide C.prog W .any base t v) →
      DataW.Whole enc C.prog fn.params.toList s.vars apart W args.toList ds gs before →
      conds.all (PathCond.test C.prog ⟨fn.params.toList, ds, s.plain.varTypes C.prog, gs⟩) = true →
      (DataW.weightsEach C.prog (fn.params.toList ++ s.plain.varTypes C.prog) (ds ++ gs)).all (· ≤ reachBytes) = true → X W args → W.ShapedOpen C.prog →
      a.holds C.prog (lone (Frame.enter C.prog f args .normal) [] W) →
      Calls C.prog f args W fun e W' => ∃ v, e = .returned v ∧ s.post enc C.prog fn apart fresh handsOn again W args v W') :
    ReturnsInHanded a C os f .any (fun w args => (s.pre enc C.prog fn conds apart w args ∧ X w args) ∧ sizedMet enc C.prog fn (OpenSpec.ofChange s) apart w args) (s.post enc C.prog fn apart fresh handsOn again) := by
  refine returnsInHanded_of_calls own started noInit witness ?_
  intro w tape i _ hsh _ hok hpre hholds
  obtain ⟨_, _, _, fn', hfn', _, _, _, _, hval⟩ := hok
  have e : fn' = fn := Option.some.inj (hfn'.symm.trans hfn)
  subst e
  obtain ⟨⟨⟨ds, gs, before, hw, hc⟩, hx⟩, hz⟩ := hpre
  have hw' := DataW.Whole.of_heap (w' := w.forCall tape i) (by rfl) hw
  refine (contract (w.forCall tape i) w.heap.size i.args ds gs before hval hw' hc (hz.weights hw) (hX _ _ _ (by rfl) hx) hsh hholds).mono fun e W' ⟨v, he, hp⟩ => ?_
  subst he
  exact ChangeSpec.post_blind hp
set_option maxRecDepth 100000 in
theorem maxLen_cell2 {W : World} (h : W.ShapedOpen Tryz.prog) : ∃ m, W.cell? ⟨4, 0, none⟩ = some (.int .i64 m) :=
  cell_of_shapedOpen_int (t := 3) (zero := #[.int .i64 0]) h (of_decide_eq_true (by kernel_rfl)) (by kernel_rfl) rfl (by kernel_rfl) (by kernel_rfl) Tryz.underlying3
set_option maxRecDepth 100000 in
theorem realPrints_lifted (os : Os) (started : os.Started) (H : Type) (enc : TypeId × Value → H) :
    ReturnsInHanded {} Tryz.checked os 3 .any (fun w args => (Rows.realPrintsSpec.pre enc Tryz.prog Tryz.f3 [] false w args ∧ laidMetH Tryz.prog laids w) ∧ sizedMet enc Tryz.prog Tryz.f3 (OpenSpec.ofChange Rows.realPrintsSpec) false w args)
      (Rows.realPrintsSpec.post enc Tryz.prog Tryz.f3 false true false false) := by
  refine returns_and_shaped2 (C := Tryz.checked) (X := fun w _ => laidMetH Tryz.prog laids w) (fun _ _ _ hh h => h.of_heap hh) own started (by kernel_rfl) Tryz.func3
    (ChangeSpec.witness_shaped (enc := enc) (C := Tryz.checked) (os := os) (X := fun w _ => laidMetH Tryz.prog laids w) false (World.laidAll Tryz.prog os laids) #[.slice none 0 0] 8 (World.laidAll_os _ _ _) (start_shaped os _) (by kernel_rfl) (by kernel_rfl) (by kernel_rfl) (start_met os _)) ?_
  intro W base args ds gs before hval0 hW _ hsz0 hL hSh _
  have hsz : (DataW.weightsEach Tryz.prog (Tryz.f3.params.toList ++ Rows.realPrintsSpec.plain.varTypes Tryz.prog) (ds ++ gs)).all (· ≤ reachBytes) = true := hsz0
  have hval : ∀ (j : Nat) t v, Tryz.f3.params[j]? = some t → args[j]? = some v → Value.okWide Tryz.prog W .any base t v := hval0
  have hW' := hW
  obtain ⟨p, q, hA0, hV, rfl, hfz, hnd⟩ := hW
  have hA : DataW.TrodAll enc Tryz.prog W 0 (fun _ => true) true Tryz.f3.params.toList args.toList ds p := hA0
  rw [Tryz.params3] at hA hval hsz
  obtain ⟨v0, d0, rfl, rfl, h0⟩ := trodAll_one hA
  obtain ⟨rfl, rfl⟩ := trodVars_none hV
  clear hA0 hval0 hsz0
  simp only [List.append_nil] at hW'
  have hlt : ∀ x ∈ p, x.block < W.heap.size := fun x hx => by simpa using hW'.lt x hx
  have hw0 : (d0.weights Tryz.prog 22).all (· ≤ reachBytes) = true := by
    simp only [List.append_nil, List.cons_append, List.nil_append, DataW.weightsEach, List.all_append, Bool.and_eq_true] at hsz
    exact hsz.1
  have hargs : ∀ (W' : World), Below W.heap.size W W' → DataW.TrodAll enc Tryz.prog W' 0 (fun b => decide (b < W.heap.size)) true [22] [v0] [d0] p := fun W' hn =>
    trodAll_mk1 (Below.trod laidOutP (by kernel_rfl) (of_decide_eq_true (by kernel_rfl)) h0 hn (fun x hx => hlt x hx))
  obtain ⟨ao, b, o, cap, L, rfl, e1, e2, e3, e4⟩ := open_words (hval 0 22 v0 rfl rfl) h0 hw0
  obtain ⟨hGl, hP⟩ := glob_of_laid hL
  have hK : KP W b o L W := ⟨⟨hGl, maxLen_cell2 hSh⟩, e4, Below.refl _ _⟩
  refine (prints_walk ao b o cap L e1 e2 (by omega) W hP hK).mono fun e W' ⟨he, hb⟩ => ?_
  subst he
  exact ⟨_, rfl, _, _, _, [], _, [], hW', trodAll_mk1 (shut_bool Tryz.underlying4 _), hargs W' hb, rfl, hb.frame _, fun h => by cases h⟩
theorem realPrints_holds : Rows.RealPrintsSaid :=
  OpenClaim.holds_of_wide 3 Tryz.f3 rfl rfl rfl rfl rfl rfl rfl ⟨rfl, rfl, rfl, rfl, rfl⟩ rfl rfl rfl rfl rfl (by kernel_rfl) Tryz.func3 (by kernel_rfl)
    (of_decide_eq_true (by kernel_rfl)) (by unfold Func.isWrapper; first | (rw [if_pos (by decide +kernel)]; kernel_rfl) | (rw [if_neg (by decide +kernel)]; exact ⟨rfl, rfl⟩))
    (fun os started H enc _ => realPrints_lifted os started H enc)
theorem realPrints_card : Rows.RealPrintsCardSaid :=
  Claim7.holds_tied_plain_at .later [] [.data, .data, .widerDeep, .widerDeep, .data, .data, .data, .data, .data, .sentinel, .sentinel, .pinned, .pinned] true Rows.realPrintsCard.stood.harness true
    realPrints_holds (fun _ h => by cases h) (by kernel_rfl) (fun _ h => by cases h) realPrints_row_tie rfl ⟨rfl, rfl⟩ (by kernel_rfl) rfl
    (fun f fn hf hfn => by
      obtain rfl : f = 3 := Option.some.inj ((show Tryz.prog.funcNamed Rows.realPrintsRow.func = some 3 by kernel_rfl).symm.trans hf) |>.symm
      obtain rfl : fn = Tryz.f3 := (Option.some.inj (Tryz.func3.symm.trans hfn)).symm
      exact ⟨by kernel_rfl, fun j t ht => by
        rw [Tryz.params3] at ht
        have hm : t ∈ [22] := by simpa using Array.mem_of_getElem? ht
        have hall : ([22].all fun u => !Tryz.prog.wantsStandIn u) = true := by kernel_rfl
        exact (show Tryz.prog.wantsStandIn t = false by simpa using List.all_eq_true.1 hall t hm)⟩)
    (by kernel_rfl)
end Go.Proofs.YtmejmohambhaaaaGreatDoor
