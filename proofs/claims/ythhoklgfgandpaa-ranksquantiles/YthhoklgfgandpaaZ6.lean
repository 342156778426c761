/- RanksQuantiles: THE ROW of its first form. Own work of the verifier. -/
import Derived.Test.YthhoklgfgandpaaY8
import Derived.Test.YthhoklgfgandpaaE9
import Derived.Test.YthhoklgfgandpaaDr5
namespace Go.Proofs.Ythhoklgfgandpaa
open Go.ChangeShapes Go.WideShapes Go.ChangeAt Go.RowKit Go.Joins

theorem bytesI : Try.prog.bytesOf 2 = 8 := by kernel_rfl
section
variable {H : Type} {enc : TypeId × Value → H}
set_option maxRecDepth 100000 in
/-- Values, opened. -/
theorem open_vals {W : World} {fuel : Nat} {v : Value} {x : DataW H × List MemPlace} (hsp : ∀ a len cap, v = .slice (some a) len cap → a.spot = none) (h : DataW.trod enc Try.prog W 0 (fun _ => true) true fuel 40 [v] = some x) (hw : (x.1.weights Try.prog 40).all (· ≤ reachBytes) = true) :
    v = .slice none 0 0 ∨ ∃ b o cap S, v = .slice (some ⟨b, o, none⟩) S.length cap ∧ S.length ≤ cap ∧ RowI W b o S ∧ (∀ z ∈ S, z < 9223372036854775808) ∧ S.length ≤ 17592186043904 := by
  rcases open_ints Try.underlying40 Try.underlying2 cellsI64 h with ⟨hcs, hx⟩ | ⟨a, len, cap, zs, hcs, _, hl, hm, hz, hx, hcell, hwz⟩
  · simp at hcs
    exact Or.inl hcs
  · simp at hcs
    subst hcs
    subst hx
    simp only [if_true] at hz
    have hspot := hsp _ _ _ rfl
    obtain ⟨b, off, spot⟩ := a
    simp at hspot
    subst hspot
    have hlen : (zs.take len).length = len := by simp; omega
    refine Or.inr ⟨b, off, cap, zs.take len, by rw [hlen], by rw [hlen]; exact hl, fun i hi => ?_, fun z hzm => (range_i64 (hwz z (List.mem_of_mem_take hzm))).2, ?_⟩
    · rw [hlen] at hi
      have hi' : i < zs.length := by omega
      have hc := hcell i hi'
      rw [Addr.add_lit] at hc
      rw [hc]
      simp [List.getD, hi']
    · rw [hlen]
      simp only [DataW.weights, Try.underlying40, bytesI, List.all_cons, Bool.and_eq_true, decide_eq_true_eq, lits, List.length_map, List.length_take, List.length_drop] at hw
      have := hw.1
      unfold reachBytes at this
      omega
set_option maxRecDepth 100000 in
theorem open_quant {W : World} {base : Nat} {v : Value} {d : DataW H} {pl : List MemPlace} (hv : Value.okWide Try.prog W .any base 42 v) (h : DataW.Trod enc Try.prog W 0 (fun _ => true) true 42 v d pl) (hk : (d.weights Try.prog 42).all (· ≤ reachBytes) = true) :
    ∃ (p num den : Int) (sl : Value), v = .agg #[.int .i64 p, sl, .int .i64 num, .int .i64 den] ∧ den < 9223372036854775808 ∧
      (sl = .slice none 0 0 ∨ ∃ b o cap S, sl = .slice (some ⟨b, o, none⟩) S.length cap ∧ S.length ≤ cap ∧ RowI W b o S ∧ (∀ z ∈ S, z < 9223372036854775808) ∧ S.length ≤ 17592186043904) := by
  obtain ⟨cs, rfl, hsz⟩ := okWide_struct Try.underlying42 hv
  obtain ⟨fuel, hf⟩ := h
  obtain ⟨xs, n, _, hx, _, hlen, hfs⟩ := DataW.trod_struct Try.underlying42 hf
  rw [cellsQ] at hsz
  obtain ⟨l⟩ := cs
  match l, hsz, xs, hlen with
  | [c0, c1, c2, c3], _, [y0, y1, y2, y3], _ =>
    have g0 := hfs 0 _ rfl
    have g1 := hfs 1 _ rfl
    have g2 := hfs 2 _ rfl
    have g3 := hfs 3 _ rfl
    simp [Value.cells, cellsInt, cellsI64, cellsSI] at g0 g1 g2 g3
    obtain ⟨p, e0, f0, w0⟩ := DataW.trod_int Try.underlying3 g0
    simp only [Prod.mk.injEq] at hx
    rw [hx.1] at hk
    simp only [List.map_cons, List.map_nil, DataW.weights, Try.underlying42, DataW.weightsEach, List.all_append, Bool.and_eq_true] at hk
    have hS := open_vals (fun a len cap e => spot_field Try.underlying42 hv typesQ (i := 1) rfl Try.underlying40 (by rw [e]; rfl)) g1 hk.2.1
    obtain ⟨num, e2, f2, w2⟩ := DataW.trod_int Try.underlying2 g2
    obtain ⟨den, e3, f3, w3⟩ := DataW.trod_int Try.underlying2 g3
    simp at e0 e2 e3
    subst e0 e2 e3
    refine ⟨p, num, den, c1, rfl, (range_i64 w3).2, ?_⟩
    rcases hS with hS | ⟨b, o, cap, S, k1, k2, k3, k4, k5⟩
    · exact Or.inl hS
    · exact Or.inr ⟨b, o, cap, S, k1, k2, k3, k4, k5⟩
end
/-- The law's walk, whatever comes. -/
theorem quant_walk (P num den : Int) (sl : Value) (hd : den < 9223372036854775808) (W : World) (h : sl = .slice none 0 0 ∨ ∃ b o cap S, sl = .slice (some ⟨b, o, none⟩) S.length cap ∧ S.length ≤ cap ∧ RowI W b o S ∧ (∀ z ∈ S, z < 9223372036854775808) ∧ S.length ≤ 17592186043904) :
    Calls Try.prog 5 #[.agg #[.int .i64 P, sl, .int .i64 num, .int .i64 den]] W fun e w' => e = .returned (.bool true) ∧ Below W.heap.size W w' := by
  rcases h with rfl | ⟨b, o, cap, S, rfl, k2, k3, k4, k5⟩
  · exact quant_bad told_now P num den _ none 0 0 rfl (by simp) W
  · by_cases hh : 1 ≤ P ∧ P ≤ 14 ∧ 1 ≤ den ∧ 0 ≤ num ∧ num ≤ den ∧ S.length ≠ 0
    · obtain ⟨p, rfl⟩ := Int.eq_ofNat_of_zero_le (by omega : 0 ≤ P)
      obtain ⟨n, rfl⟩ := Int.eq_ofNat_of_zero_le hh.2.2.2.1
      obtain ⟨d, rfl⟩ := Int.eq_ofNat_of_zero_le (by omega : 0 ≤ den)
      exact quant_good told_now p n d b o cap S (by omega) (by omega) (by omega) (by omega) (by omega) (by omega) k5 k2 k4 W k3
    · exact quant_bad told_now P num den _ _ _ _ rfl hh W
set_option maxRecDepth 100000 in
theorem ranksQuantiles_lifted (os : Os) (started : os.Started) (H : Type) (enc : TypeId × Value → H) :
    ReturnsInHanded {} Try.checked os 5 .any (Rows.ranksQuantilesSpec.pre6 enc Try.prog Try.f5 Rows.ranksQuantilesRow.domain false) (Rows.ranksQuantilesSpec.post enc Try.prog Try.f5 false true false false) := by
  refine returnsInHanded_of_change_sized (C := Try.checked) own started (by kernel_rfl) Try.func5
    (ChangeSpec.witness6 (enc := enc) (C := Try.checked) false ⟨#[], #[.agg #[.int .i64 0, .slice none 0 0, .int .i64 0, .int .i64 0]], []⟩ 8 (by kernel_rfl) (by kernel_rfl) (by kernel_rfl) (by kernel_rfl)) ?_
  intro W base args ds gs before hval0 hW _ hsz0 _
  have hsz : (DataW.weightsEach Try.prog (Try.f5.params.toList ++ Rows.ranksQuantilesSpec.plain.varTypes Try.prog) (ds ++ gs)).all (· ≤ reachBytes) = true := hsz0
  have hval : ∀ (j : Nat) t v, Try.f5.params[j]? = some t → args[j]? = some v → Value.okWide Try.prog W .any base t v := hval0
  have hW' := hW
  obtain ⟨p, q, hA0, hV, rfl, hfz, hnd⟩ := hW
  have hA : DataW.TrodAll enc Try.prog W 0 (fun _ => true) true Try.f5.params.toList args.toList ds p := hA0
  rw [Try.params5] at hA hval hsz
  obtain ⟨v0, d0, rfl, rfl, h0⟩ := trodAll_one hA
  obtain ⟨rfl, rfl⟩ := trodVars_none hV
  clear hA0 hval0 hsz0
  simp only [List.append_nil] at hW'
  have hlt : ∀ x ∈ p, x.block < W.heap.size := fun x hx => by simpa using hW'.lt x hx
  have hw : (d0.weights Try.prog 42).all (· ≤ reachBytes) = true := by
    simp only [List.append_nil, List.cons_append, List.nil_append, DataW.weightsEach, List.all_append, Bool.and_eq_true] at hsz
    exact hsz.1
  have hargs : ∀ (W' : World), Below W.heap.size W W' → DataW.TrodAll enc Try.prog W' 0 (fun b => decide (b < W.heap.size)) true [42] [v0] [d0] p := fun W' hn =>
    trodAll_mk1 (Below.trod laidOut (by kernel_rfl) (of_decide_eq_true (by kernel_rfl)) h0 hn hlt)
  obtain ⟨P, num, den, sl, rfl, hd, hs⟩ := open_quant (hval 0 42 v0 rfl rfl) h0 hw
  refine (quant_walk P num den sl hd W hs).mono fun e W' ⟨he, hg⟩ => ?_
  subst he
  exact ⟨_, rfl, _, _, _, [], _, [], hW', trodAll_mk1 (shut_bool Try.underlying4 _), hargs W' hg, rfl, hg.frame _, fun h => by cases h⟩
theorem ranksQuantiles_holds : Rows.RanksQuantilesSaid :=
  OpenClaim.holds_of_wide 5 Try.f5 rfl rfl rfl rfl rfl rfl rfl ⟨rfl, rfl, rfl, rfl, rfl⟩ rfl rfl rfl rfl rfl (by kernel_rfl) Try.func5 (by kernel_rfl)
    (of_decide_eq_true (by kernel_rfl)) (by unfold Func.isWrapper; first | (rw [if_pos (by decide +kernel)]; kernel_rfl) | (rw [if_neg (by decide +kernel)]; exact ⟨rfl, rfl⟩))
    (fun os started H enc _ => ranksQuantiles_lifted os started H enc)
end Go.Proofs.Ythhoklgfgandpaa
