/- RegistryCounts: THE DOOR (texts, pairs of whole numbers). Own work of the verifier. -/
import Derived.Test.YtfnohbalkpponaaGreatDoorZRN
import Derived.Test.YtfnohbalkpponaaGreatDoorRows
import Derived.SliceStrings
import Derived.Lib.SmallJoins
import Derived.Carry
import Derived.SizedLaws
import Derived.ProofKit
import Derived.OpenShut
import Derived.ChangeSlices
import Derived.Deep.Slices
import Derived.Lay
import Derived.LaidOnce
import Derived.LaidMore
import Derived.Test.YtfnohbalkpponaaGreatDoorCards
import Derived.Test.YtfnohbalkpponaaGreatDoorTie
import Derived.SevenTiedAt
namespace Go.Proofs.YtfnohbalkpponaaGreatDoor
open Go.ChangeShapes Go.WideShapes Go.ChangeAt Go.RowKit Go.Joins

theorem ct_own : ownKnob Tryz.prog.godebug = none := by kernel_rfl
theorem ct_laidOut : laidOutB Tryz.prog = true := by kernel_rfl
theorem ct_cellsS : Tryz.prog.cellsOf 9 = 1 := by kernel_rfl
theorem ct_bytesS : Tryz.prog.bytesOf 9 = 16 := by kernel_rfl
theorem ct_cellsInt : Tryz.prog.cellsOf 3 = 1 := by kernel_rfl
theorem ct_cellsP : Tryz.prog.cellsOf 65 = 2 := by kernel_rfl
theorem ct_bytesP : Tryz.prog.bytesOf 65 = 16 := by kernel_rfl
section
variable {H : Type} {enc : TypeId × Value → H}
theorem ct_wstrs (P : Program) (e : TypeId) (l : List ByteArray) (s : ByteArray) (hs : s ∈ l) : s.size ∈ DataW.weightsAll (H := H) P e (strs l) := by
  induction l with
  | nil => cases hs
  | cons x r ih =>
    unfold strs
    rw [List.map_cons, DataW.weightsAll, List.mem_append]
    rcases List.mem_cons.1 hs with rfl | h
    · left
      simp [DataW.weights]
    · exact Or.inr (ih h)
theorem ct_mem {l : List Nat} {B n : Nat} (h : l.all (· ≤ B) = true) (hn : n ∈ l) : n ≤ B := by
  have := List.all_eq_true.1 h n hn
  simpa using this
set_option maxRecDepth 100000 in
/-- A row of texts, opened. -/
theorem ct_texts {W : World} {base : Nat} {v : Value} {d : DataW H} {p : List MemPlace} (hv : Value.okWide Tryz.prog W .any base 47 v) (h : DataW.Trod enc Tryz.prog W 0 (fun _ => true) true 47 v d p) (hw : (d.weights Tryz.prog 47).all (· ≤ reachBytes) = true) :
    ∃ (ao : Option Addr) (b o cap : Nat) (L : List (List UInt8)), v = .slice ao L.length cap ∧ (L ≠ [] → ao = some ⟨b, o, none⟩) ∧ (∀ i (hi : i < L.length), W.cell? ⟨b, o + i, none⟩ = some (.string ⟨L[i].toArray⟩) ∧ L[i].length ≤ 4611686018427387904) ∧ L.length ≤ 17592186044416 := by
  obtain ⟨a0, len, cap, rfl⟩ := okWide_slice Tryz.underlying47 hv
  obtain ⟨fuel, hf⟩ := h
  rcases open_strings Tryz.underlying47 Tryz.underlying9 ct_cellsS hf with ⟨hcs, hx⟩ | ⟨a, len', cap', ss, hcs, _, hl, hm, hz, hx, hcell, hsz⟩
  · simp [Value.cells] at hcs
    obtain ⟨rfl, rfl, rfl⟩ := hcs
    exact ⟨none, 0, 0, 0, [], rfl, fun k => absurd rfl k, (fun i hi => by simp at hi), by simp⟩
  · simp [Value.cells] at hcs
    obtain ⟨rfl, rfl, rfl⟩ := hcs
    simp only [if_true] at hz
    have hlen : ((ss.take len).map fun s => s.data.toList).length = len := by simp; omega
    have hd : d = .slice (strs (ss.take len)) (strs (ss.drop len)) := (Prod.mk.inj hx).1
    obtain ⟨b, off, spot⟩ := a
    have hs0 : 0 < len → spot = none := fun k => by simpa [Addr.add] using World.cell?_spot (hcell 0 (by omega))
    rw [hd] at hw
    simp only [DataW.weights, Tryz.underlying47, ct_bytesS, List.all_cons, List.all_append, Bool.and_eq_true, decide_eq_true_eq] at hw
    refine ⟨some ⟨b, off, spot⟩, b, off, cap, (ss.take len).map fun s => s.data.toList, by rw [hlen], fun k => ?_, fun i hi => ?_, ?_⟩
    · have : 0 < len := by
        rcases Nat.eq_zero_or_pos len with q | q
        · exact absurd (by rw [q]; rfl) k
        · exact q
      rw [hs0 this]
    · have hi2 : i < len := by rw [hlen] at hi; exact hi
      have hi' : i < ss.length := by omega
      have hc := hcell i hi'
      have e := hs0 (by omega)
      subst e
      rw [Addr.add_lit] at hc
      refine ⟨?_, ?_⟩
      · rw [hc]
        simp [List.getD, hi']
      · have hmem : ss[i] ∈ ss.take len := by
          rw [List.mem_take_iff_getElem]
          exact ⟨i, by omega, rfl⟩
        have := ct_mem hw.2.1 (ct_wstrs _ _ _ ss[i] hmem)
        unfold reachBytes at this
        have e : ss[i].data.toList.length = ss[i].size := rfl
        simp only [List.getElem_map, List.getElem_take]
        omega
    · rw [hlen]
      have := hw.1
      unfold strs reachBytes at this
      simp only [List.length_map, List.length_take, List.length_drop] at this
      omega
set_option maxRecDepth 100000 in
/-- Pairs of whole numbers, opened. -/
theorem ct_pairs {W : World} {base : Nat} {v : Value} {d : DataW H} {pl : List MemPlace} (hv : Value.okWide Tryz.prog W .any base 48 v) (h : DataW.Trod enc Tryz.prog W 0 (fun _ => true) true 48 v d pl)
    (hw : (d.weights Tryz.prog 48).all (· ≤ reachBytes) = true) :
    ∃ (ao : Option Addr) (b off cap : Nat) (L : List (Int × Int)), v = .slice ao L.length cap ∧ (L ≠ [] → ao = some ⟨b, off, none⟩) ∧
      (∀ i (hi : i < L.length), W.cell? ⟨b, off + i * 2, none⟩ = some (.int .i64 L[i].1) ∧ W.cell? ⟨b, off + i * 2 + 1, none⟩ = some (.int .i64 L[i].2)) ∧ L.length ≤ 17592186044416 := by
  obtain ⟨a0, len, cap, rfl⟩ := okWide_slice Tryz.underlying48 hv
  obtain ⟨fuel, hf⟩ := h
  rcases Deep.open_slice Tryz.underlying48 hf with ⟨hcs, _⟩ | ⟨a, len', cap', m, n, D, Pl, hcs, _, hl, hm, hmm, hxx, hx⟩
  · simp [Value.cells] at hcs
    obtain ⟨rfl, rfl, rfl⟩ := hcs
    exact ⟨none, 0, 0, 0, [], rfl, (fun k => absurd rfl k), (fun i hi => by simp at hi), by simp⟩
  · simp [Value.cells] at hcs
    obtain ⟨rfl, rfl, rfl⟩ := hcs
    simp only [if_true] at hmm
    subst hmm
    obtain ⟨rfl, rfl⟩ := Prod.mk.inj hxx
    have each : ∀ i, i < m → ∃ s : Int × Int, W.cell? (a.add (i * 2)) = some (.int .i64 s.1) ∧ W.cell? (a.add (i * 2 + 1)) = some (.int .i64 s.2) := by
      intro i hi
      obtain ⟨cs', h1, h2⟩ := hx i hi
      rw [ct_cellsP] at h1
      obtain ⟨_, hlen, hcell⟩ := World.cells?_some h1
      obtain ⟨xs, k, hk, hxy, _, hxl, hfs⟩ := DataW.trod_array Tryz.underlying65 h2
      match xs, hxl, cs', hlen with
      | [y0, y1], _, [v0, v1], _ =>
        have g0 := hfs 0 (by decide)
        have g1 := hfs 1 (by decide)
        simp [ct_cellsInt] at g0 g1
        obtain ⟨z0, e0, _, _⟩ := DataW.trod_int Tryz.underlying3 g0
        obtain ⟨z1, e1, _, _⟩ := DataW.trod_int Tryz.underlying3 g1
        simp at e0 e1
        subst e0 e1
        have c0 := hcell 0 (by omega)
        have c1 := hcell 1 (by omega)
        rw [Deep.add_add] at c0 c1
        exact ⟨(z0, z1), by simpa using c0, by simpa using c1⟩
    obtain ⟨f, hf'⟩ := Deep.choose_lt each
    have hlen : ((List.range len).map f).length = len := by simp
    obtain ⟨b, off, spot⟩ := a
    have hs : 0 < len → spot = none := fun k => by simpa [Addr.add] using World.cell?_spot (hf' 0 (by omega)).1
    refine ⟨some ⟨b, off, spot⟩, b, off, m, (List.range len).map f, by rw [hlen], fun k => ?_, fun i hi => ?_, ?_⟩
    · have : 0 < len := by
        rcases Nat.eq_zero_or_pos len with q | q
        · exact absurd (by rw [q]; rfl) k
        · exact q
      rw [hs this]
    · rw [hlen] at hi
      obtain ⟨c0, c1⟩ := hf' i (by omega)
      have e := hs (by omega)
      subst e
      rw [Addr.add_lit] at c0 c1
      simp only [List.getElem_map, List.getElem_range]
      exact ⟨c0, by rw [← Nat.add_assoc] at c1; exact c1⟩
    · rw [hlen]
      simp only [DataW.weights, Tryz.underlying48, ct_bytesP, List.all_cons, Bool.and_eq_true, decide_eq_true_eq, List.length_map, List.length_range] at hw
      have := hw.1
      unfold reachBytes at this
      omega
end
end Go.Proofs.YtfnohbalkpponaaGreatDoor
/- RegistryCounts: THE ROW, lifted. Own work of the verifier. -/
namespace Go.Proofs.YtfnohbalkpponaaGreatDoor
open Go.ChangeShapes Go.WideShapes Go.ChangeAt Go.RowKit Go.Joins

abbrev ct_laids : List (String × DataW Unit) := [("gnomon/gate.errLetGo", Rows.laid_gnomon_gate_errLetGo)]
set_option maxRecDepth 100000 in
theorem ct_met (os : Os) (args : Array Value) : laidMetH Tryz.prog ct_laids ((World.laidAll Tryz.prog os ct_laids).forCall (fun _ _ => 0) ⟨#[], args, []⟩).memory := by
  rw [MakeChecks.laidMetH_plain _ _ _ (by kernel_rfl)]; exact laidMet_laidAll _ (by kernel_rfl) (by kernel_rfl)
set_option maxRecDepth 100000 in
theorem ct_shaped (os : Os) (args : Array Value) : ((World.laidAll Tryz.prog os ct_laids).forCall (fun _ _ => 0) ⟨#[], args, []⟩).Shaped Tryz.prog := World.shaped_of_ZipB (by kernel_rfl) (by kernel_rfl)
set_option maxRecDepth 100000 in
theorem registryCounts_lifted (os : Os) (started : os.Started) (H : Type) (enc : TypeId × Value → H) :
    ReturnsInHanded {} Tryz.checked os 4 .any (fun w args => (Rows.registryCountsSpec.pre enc Tryz.prog Tryz.f4 [] false w args ∧ laidMetH Tryz.prog ct_laids w) ∧ sizedMet enc Tryz.prog Tryz.f4 (OpenSpec.ofChange Rows.registryCountsSpec) false w args)
      (Rows.registryCountsSpec.post enc Tryz.prog Tryz.f4 false true false false) := by
  refine returnsInHanded_of_change_and (C := Tryz.checked) (X := fun w _ => laidMetH Tryz.prog ct_laids w) (fun _ _ _ hh h => h.of_heap hh) ct_own started (by kernel_rfl) Tryz.func4
    (ChangeSpec.witness_shaped (enc := enc) (C := Tryz.checked) (os := os) (X := fun w _ => laidMetH Tryz.prog ct_laids w) false (World.laidAll Tryz.prog os ct_laids) #[.slice none 0 0, .slice none 0 0] 8 (World.laidAll_os _ _ _) (ct_shaped os _) (by kernel_rfl) (by kernel_rfl) (by kernel_rfl) (ct_met os _)) ?_
  intro W base args ds gs before hval0 hW _ hsz0 hL _
  have hsz : (DataW.weightsEach Tryz.prog (Tryz.f4.params.toList ++ Rows.registryCountsSpec.plain.varTypes Tryz.prog) (ds ++ gs)).all (· ≤ reachBytes) = true := hsz0
  have hval : ∀ (j : Nat) t v, Tryz.f4.params[j]? = some t → args[j]? = some v → Value.okWide Tryz.prog W .any base t v := hval0
  have hW' := hW
  obtain ⟨p, q, hA0, hV, rfl, hfz, hnd⟩ := hW
  have hA : DataW.TrodAll enc Tryz.prog W 0 (fun _ => true) true Tryz.f4.params.toList args.toList ds p := hA0
  rw [Tryz.params4] at hA hval hsz
  obtain ⟨v0, v1, d0, d1, p0, p1, rfl, rfl, rfl, h0, h1⟩ := trodAll_two hA
  obtain ⟨rfl, rfl⟩ := trodVars_none hV
  clear hA0 hval0 hsz0
  simp only [List.append_nil] at hW'
  have hlt : ∀ x ∈ p0 ++ p1, x.block < W.heap.size := fun x hx => by simpa using hW'.lt x hx
  have hw01 : (d0.weights Tryz.prog 47).all (· ≤ reachBytes) = true ∧ (d1.weights Tryz.prog 48).all (· ≤ reachBytes) = true := by
    simp only [List.append_nil, List.cons_append, List.nil_append, DataW.weightsEach, List.all_append, Bool.and_eq_true] at hsz
    exact ⟨hsz.1, hsz.2.1⟩
  have hargs : ∀ (W' : World), Below W.heap.size W W' → DataW.TrodAll enc Tryz.prog W' 0 (fun b => decide (b < W.heap.size)) true [47, 48] [v0, v1] [d0, d1] (p0 ++ p1) := fun W' hn =>
    trodAll_mk2 (Below.trod ct_laidOut (by kernel_rfl) (of_decide_eq_true (by kernel_rfl)) h0 hn (fun x hx => hlt x (by simp [hx])))
      (Below.trod ct_laidOut (by kernel_rfl) (of_decide_eq_true (by kernel_rfl)) h1 hn (fun x hx => hlt x (by simp [hx])))
  obtain ⟨na, nb, no, nc, N, e0, a1, a2, a3⟩ := ct_texts (hval 0 47 v0 rfl rfl) h0 hw01.1
  obtain ⟨aa, ab, ao, ac, A, e1, b1, b2, b3⟩ := ct_pairs (hval 1 48 v1 rfl rfl) h1 hw01.2
  have hwalk := counts_walk N na nb no nc A aa ab ao ac W a1 a2 b1 b2 a3 b3
  rw [← e0, ← e1] at hwalk
  refine hwalk.mono fun e W' ⟨he, hb⟩ => ?_
  subst he
  exact ⟨_, rfl, _, _, _, [], _, [], hW', trodAll_mk1 (shut_bool Tryz.underlying4 _), hargs W' hb, rfl, hb.frame _, fun h => by cases h⟩
end Go.Proofs.YtfnohbalkpponaaGreatDoor
/- RegistryCounts: THE CARD. Own work of the verifier. -/
namespace Go.Proofs.YtfnohbalkpponaaGreatDoor
open Go.ChangeShapes Go.WideShapes Go.ChangeAt Go.RowKit Go.Joins

theorem cf_band {a b : Bool} (ha : a = true) (hb : b = true) : (a && b) = true := by rw [ha, hb]; rfl
set_option maxHeartbeats 0 in
set_option maxRecDepth 100000 in
theorem cf_closed : joinedFacts Tryz.prog 4 Tryz.f4 Rows.registryCountsSpec Rows.registryCountsRow = true := by
  unfold joinedFacts
  repeat' (with_reducible refine cf_band ?_ ?_)
  all_goals (as_aux_lemma => kernel_rfl)
theorem cf_named : Tryz.prog.funcNamed Rows.registryCountsRow.func = some 4 := by kernel_rfl
theorem cf_inst : Tryz.f4.isInstance Tryz.prog Rows.registryCountsRow.origin Rows.registryCountsRow.targs := of_decide_eq_true (by kernel_rfl)
theorem cf_wrap : Tryz.f4.isWrapper Tryz.prog Rows.registryCountsRow.wrapper Rows.registryCountsRow.mainSum := by unfold Func.isWrapper; first | (rw [if_pos (by decide +kernel)]; kernel_rfl) | (rw [if_neg (by decide +kernel)]; exact ⟨rfl, rfl⟩)
theorem registryCounts_holds : Rows.RegistryCountsSaid :=
  OpenClaim.holds_of_wide 4 Tryz.f4 rfl rfl rfl rfl rfl rfl rfl ⟨rfl, rfl, rfl, rfl, rfl⟩ rfl rfl rfl rfl rfl cf_named Tryz.func4 cf_closed cf_inst cf_wrap
    (fun os started H enc _ => registryCounts_lifted os started H enc)
/-- A tied card of a row whose program may start goroutines elsewhere. -/
theorem ct_card_goes {s : OpenSpec} {c : OpenClaim} (har : Bool × String) (lk : Bool)
    (hc : c.holds Tryz.pinned s) (hw : c.wfByText s = true) (htie : c.laidByTextAt .later Tryz.pinned [.sentinel] true)
    (hst : c.start = .entering) (hnb : c.noBlocks = false ∧ c.again = false) (hm : Tryz.pinned.checked.prog.mainIs = some (har.1, har.2.toList)) (hn : (!har.1 && har.2.isEmpty && !lk) = false)
    (hl : ∀ f fn, Tryz.pinned.checked.prog.funcNamed c.func = some f → Tryz.pinned.checked.prog.funcs[f]? = some fn → lk = Tryz.pinned.checked.prog.looks [] ∧ ∀ (j : Nat) t, fn.params[j]? = some t → Tryz.pinned.checked.prog.wantsStandIn t = false)
    (hg : true = c.goesBy Tryz.pinned.checked.prog) :
    Claim7.holds Tryz.pinned (.plain s) { stood := { row := c, standIns := [], harness := har, looks := lk }, kinds := [], alts := [], goes := true, laidByText := true, laidKinds := [.sentinel], laidTests := true, laidLooks := .later } := by
  have h6 : ∀ r : OpenClaim, Claim7.isSixth { stood := { row := r, standIns := [], harness := har, looks := lk }, kinds := [] } = false := fun r => by simpa [Claim7.isSixth] using hn
  exact ⟨Claim7.tied_new_at .later [.sentinel] true (Claim7.new_of_sixth hc har lk hst hnb hm (h6 c) hl) hw, (fun D hD => by cases hD), htie, (fun h => by cases h), hg⟩
theorem registryCounts_card : Rows.RegistryCountsCardSaid :=
  ct_card_goes Rows.registryCountsCard.stood.harness false registryCounts_holds (by kernel_rfl) registryCounts_row_tie rfl ⟨rfl, rfl⟩ (by kernel_rfl) rfl
    (fun f fn hf hfn => by
      obtain rfl : f = 4 := Option.some.inj (cf_named.symm.trans hf) |>.symm
      obtain rfl : fn = Tryz.f4 := (Option.some.inj (Tryz.func4.symm.trans hfn)).symm
      exact ⟨by kernel_rfl, fun j t ht => by
        rw [Tryz.params4] at ht
        have hm : t ∈ [47, 48] := by simpa using Array.mem_of_getElem? ht
        have hall : ([47, 48].all fun u => !Tryz.prog.wantsStandIn u) = true := by kernel_rfl
        exact (show Tryz.prog.wantsStandIn t = false by simpa using List.all_eq_true.1 hall t hm)⟩)
    (by kernel_rfl)
end Go.Proofs.YtfnohbalkpponaaGreatDoor
