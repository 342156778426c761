/- WideFollows: THE ROW AND THE CARD. Own work of the verifier. -/
import Derived.Test.YtbobhjgndgaoaaaDoorG4
import Derived.Test.YtbobhjgndgaoaaaDoorDoor
namespace Go.Proofs.YtbobhjgndgaoaaaDoor
open Go.ChangeShapes Go.WideShapes Go.ChangeAt Go.WideMaps Go.WideElems Go.RowKit

section
variable {H : Type} {enc : TypeId × Value → H}
theorem cellsI64 : Tryd.prog.cellsOf 2 = 1 := by kernel_rfl
theorem cellsU64 : Tryd.prog.cellsOf 23 = 1 := by kernel_rfl
theorem cellsParts : Tryd.prog.cellsOf 49 = 7 := by kernel_rfl
theorem array7 {α : Type} {cs : Array α} (h : cs.size = 7) : ∃ c0 c1 c2 c3 c4 c5 c6, cs = #[c0, c1, c2, c3, c4, c5, c6] := by
  obtain ⟨l⟩ := cs
  match l, h with
  | [c0, c1, c2, c3, c4, c5, c6], _ => exact ⟨c0, c1, c2, c3, c4, c5, c6, rfl⟩
theorem trod_num {W : World} {n : Nat} {c0 c1 : Value} {y : DataW H × List MemPlace} (h : DataW.trod enc Tryd.prog W 0 (fun _ => true) true n 25 [c0, c1] = some y) :
    ∃ hi lo : Int, c0 = .int .i64 hi ∧ c1 = .int .u64 lo ∧ y = (.agg [.lit (.int .i64 hi), .lit (.int .u64 lo)], []) ∧ (Lit.int .i64 hi).wf = true ∧ (Lit.int .u64 lo).wf = true := by
  obtain ⟨y0, y1, m, rfl, _, h0, h1⟩ := trod_struct2 Tryd.underlying25 h
  obtain ⟨a, e0, rfl, wa⟩ := DataW.trod_int Tryd.underlying2 h0
  obtain ⟨b, e1, rfl, wb⟩ := DataW.trod_int Tryd.underlying23 h1
  simp [cellsI64, cellsU64] at e0 e1
  subst e0 e1
  exact ⟨a, b, rfl, rfl, rfl, wa, wb⟩
set_option maxRecDepth 100000 in
theorem open_parts {W : World} {base : Nat} {v : Value} {d : DataW H} {p : List MemPlace} (hv : Value.okWide Tryd.prog W .any base 49 v) (h : DataW.Trod enc Tryd.prog W 0 (fun _ => true) true 49 v d p) :
    ∃ ah al bh bl x y z : Int, v = .agg #[.int .i64 ah, .int .u64 al, .int .i64 bh, .int .u64 bl, .int .u64 x, .int .u64 y, .int .u64 z] ∧
      d = .agg [.agg [.lit (.int .i64 ah), .lit (.int .u64 al)], .agg [.lit (.int .i64 bh), .lit (.int .u64 bl)], .lit (.int .u64 x), .lit (.int .u64 y), .lit (.int .u64 z)] ∧ p = [] ∧
      (Lit.int .i64 ah).wf = true ∧ (Lit.int .u64 al).wf = true ∧ (Lit.int .i64 bh).wf = true ∧ (Lit.int .u64 bl).wf = true ∧ (Lit.int .u64 x).wf = true ∧ (Lit.int .u64 y).wf = true ∧ (Lit.int .u64 z).wf = true := by
  obtain ⟨cs, rfl, hsz⟩ := okWide_struct Tryd.underlying49 hv
  obtain ⟨c0, c1, c2, c3, c4, c5, c6, rfl⟩ := array7 (hsz.trans cellsParts)
  obtain ⟨fuel, hf⟩ := h
  obtain ⟨xs, n, _, hx, _, hlen, hfs⟩ := DataW.trod_struct Tryd.underlying49 hf
  match xs, hlen with
  | [y0, y1, y2, y3, y4], _ =>
    have g0 := hfs 0 _ rfl
    have g1 := hfs 1 _ rfl
    have g2 := hfs 2 _ rfl
    have g3 := hfs 3 _ rfl
    have g4 := hfs 4 _ rfl
    simp [Value.cells, cellsInt, cellsU64] at g0 g1 g2 g3 g4
    obtain ⟨ah, al, rfl, rfl, rfl, wah, wal⟩ := trod_num g0
    obtain ⟨bh, bl, rfl, rfl, rfl, wbh, wbl⟩ := trod_num g1
    obtain ⟨x, e2, rfl, wx⟩ := DataW.trod_int Tryd.underlying23 g2
    obtain ⟨y, e3, rfl, wy⟩ := DataW.trod_int Tryd.underlying23 g3
    obtain ⟨z, e4, rfl, wz⟩ := DataW.trod_int Tryd.underlying23 g4
    simp at e2 e3 e4
    subst e2 e3 e4
    simp at hx
    exact ⟨ah, al, bh, bl, x, y, z, rfl, hx.1, hx.2, wah, wal, wbh, wbl, wx, wy, wz⟩
set_option maxRecDepth 100000 in
theorem shut_parts {W : World} {sp : Nat → Bool} {ah al bh bl x y z : Int} (wah : (Lit.int .i64 ah).wf = true) (wal : (Lit.int .u64 al).wf = true) (wbh : (Lit.int .i64 bh).wf = true) (wbl : (Lit.int .u64 bl).wf = true) (wx : (Lit.int .u64 x).wf = true) (wy : (Lit.int .u64 y).wf = true) (wz : (Lit.int .u64 z).wf = true) :
    DataW.Trod enc Tryd.prog W 0 sp true 49 (.agg #[.int .i64 ah, .int .u64 al, .int .i64 bh, .int .u64 bl, .int .u64 x, .int .u64 y, .int .u64 z])
      (.agg [.agg [.lit (.int .i64 ah), .lit (.int .u64 al)], .agg [.lit (.int .i64 bh), .lit (.int .u64 bl)], .lit (.int .u64 x), .lit (.int .u64 y), .lit (.int .u64 z)]) [] := by
  refine ⟨3, ?_⟩
  have t1 : ∀ {h l : Int}, (Lit.int .i64 h).wf = true → (Lit.int .u64 l).wf = true → DataW.trod enc Tryd.prog W 0 sp true 2 25 [.int .i64 h, .int .u64 l] = some (.agg [.lit (.int .i64 h), .lit (.int .u64 l)], []) := by
    intro h l wh wl
    have ts := trod_struct2_mk (enc := enc) (w := W) (base := 0) (spare := sp) (held := true) (n := 1) (cs := [.int .i64 h, .int .u64 l]) (y0 := (.lit (.int .i64 h), [])) (y1 := (.lit (.int .u64 l), [])) Tryd.underlying25 (by simp [cellsInt])
      (by simp [DataW.trod, Tryd.underlying2, cellsI64, wh]) (by simp [DataW.trod, Tryd.underlying23, cellsU64, wl])
    simpa using ts
  have t2 : ∀ {l : Int}, (Lit.int .u64 l).wf = true → DataW.trod enc Tryd.prog W 0 sp true 2 23 [.int .u64 l] = some (.lit (.int .u64 l), []) := by
    intro l wl
    simp [DataW.trod, Tryd.underlying23, wl]
  have ts := trod_struct_mk (enc := enc) (w := W) (base := 0) (spare := sp) (held := true) (n := 2) (cs := [.int .i64 ah, .int .u64 al, .int .i64 bh, .int .u64 bl, .int .u64 x, .int .u64 y, .int .u64 z])
    (xs := [(.agg [.lit (.int .i64 ah), .lit (.int .u64 al)], []), (.agg [.lit (.int .i64 bh), .lit (.int .u64 bl)], []), (.lit (.int .u64 x), []), (.lit (.int .u64 y), []), (.lit (.int .u64 z), [])]) Tryd.underlying49 (by simp [cellsParts])
    (by simp [cellsInt, cellsU64, t1 wah wal, t1 wbh wbl, t2 wx, t2 wy, t2 wz])
  simpa [Value.cells] using ts
end

set_option maxRecDepth 100000 in
theorem wideFollows_lifted (os : Os) (started : os.Started) (H : Type) (enc : TypeId × Value → H) :
    ReturnsInHanded {} Tryd.checked os 8 .any (fun w args => (Rows.wideFollowsSpec.pre enc Tryd.prog Tryd.f8 [] false w args ∧ laidMetH Tryd.prog laids w) ∧ sizedMet enc Tryd.prog Tryd.f8 (OpenSpec.ofChange Rows.wideFollowsSpec) false w args)
      (Rows.wideFollowsSpec.post enc Tryd.prog Tryd.f8 false true false false) := by
  refine returnsInHanded_of_change_and (C := Tryd.checked) (X := fun w _ => laidMetH Tryd.prog laids w) (fun _ _ _ hh h => h.of_heap hh) own started (by kernel_rfl) Tryd.func8
    (ChangeSpec.witness_shaped (enc := enc) (C := Tryd.checked) (os := os) (X := fun w _ => laidMetH Tryd.prog laids w) false (World.doorLaid Tryd.prog 4000 os) #[.agg #[.int .i64 0, .int .u64 0, .int .i64 0, .int .u64 0, .int .u64 0, .int .u64 0, .int .u64 0]] 8 rfl (World.shaped_of_RefB (by kernel_rfl) (by kernel_rfl)) (by kernel_rfl) (by kernel_rfl) (by kernel_rfl) (door_met os _)) ?_
  intro W base args ds gs before hval0 hW _ _ hL _
  have hval : ∀ (j : Nat) t v, Tryd.f8.params[j]? = some t → args[j]? = some v → Value.okWide Tryd.prog W .any base t v := hval0
  have hW' := hW
  obtain ⟨p, q, hA0, hV, rfl, hfz, hnd⟩ := hW
  have hA : DataW.TrodAll enc Tryd.prog W 0 (fun _ => true) true Tryd.f8.params.toList args.toList ds p := hA0
  rw [Tryd.params8] at hA hval
  obtain ⟨v0, d0, rfl, rfl, h0⟩ := trodAll_one hA
  obtain ⟨rfl, rfl⟩ := trodVars_none hV
  obtain ⟨ah, al, bh, bl, x, y, z, rfl, rfl, rfl, wah, wal, wbh, wbl, wx, wy, wz⟩ := open_parts (hval 0 49 v0 rfl rfl) h0
  have htab := tab_of_laid hL
  clear hA0 hval0
  simp only [List.append_nil] at hW'
  refine (follows_walk ah al bh bl x y z (wf_words wah wal) (wf_words wbh wbl) (range_u64 wx).1 (range_u64 wx).2 (range_u64 wy).1 (range_u64 wy).2 (range_u64 wz).1 (range_u64 wz).2 W htab).mono fun e W' ⟨he, hg⟩ => ?_
  subst he
  exact ⟨_, rfl, _, _, _, [], [], [], hW', trodAll_mk1 (shut_bool Tryd.underlying4 _), trodAll_mk1 (shut_parts wah wal wbh wbl wx wy wz), rfl, hg.frame _, fun h => by cases h⟩
theorem wideFollows_holds : Rows.WideFollowsSaid :=
  OpenClaim.holds_of_wide 8 Tryd.f8 rfl rfl rfl rfl rfl rfl rfl ⟨rfl, rfl, rfl, rfl, rfl⟩ rfl rfl rfl rfl rfl (by kernel_rfl) Tryd.func8 (by kernel_rfl)
    (of_decide_eq_true (by kernel_rfl)) (by unfold Func.isWrapper; first | (rw [if_pos (by decide +kernel)]; kernel_rfl) | (rw [if_neg (by decide +kernel)]; exact ⟨rfl, rfl⟩))
    (fun os started H enc _ => wideFollows_lifted os started H enc)
theorem wideFollows_card : Rows.WideFollowsCardSaid :=
  Claim7.holds_tied_plain_at .later [] [.data, .data, .data] true Rows.wideFollowsCard.stood.harness false
    wideFollows_holds (fun _ h => by cases h) (by kernel_rfl) (fun _ h => by cases h) wideFollows_row_tie rfl ⟨rfl, rfl⟩ (by kernel_rfl) rfl
    (fun f fn hf hfn => by
      obtain rfl : f = 8 := Option.some.inj ((show Tryd.prog.funcNamed Rows.wideFollowsRow.func = some 8 by kernel_rfl).symm.trans hf) |>.symm
      obtain rfl : fn = Tryd.f8 := (Option.some.inj (Tryd.func8.symm.trans hfn)).symm
      exact ⟨by kernel_rfl, fun j t ht => by
        rw [Tryd.params8] at ht
        have hm : t ∈ [49] := by simpa using Array.mem_of_getElem? ht
        have hall : ([49].all fun u => !Tryd.prog.wantsStandIn u) = true := by kernel_rfl
        exact (show Tryd.prog.wantsStandIn t = false by simpa using List.all_eq_true.1 hall t hm)⟩)
    (by kernel_rfl)
end Go.Proofs.YtbobhjgndgaoaaaDoor
