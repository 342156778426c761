/- PairFollows: THE ROW of its second form. Own work of the verifier. -/
import Derived.Test.YtfilaeameofiaaaF2
import Derived.Test.YtfilaeameofiaaaDr
import Derived.JoinedCond
namespace Go.Proofs.Ytfilaeameofiaaa
open Go.ChangeShapes Go.WideShapes Go.ChangeAt Go.RowKit Go.Joins Soft

theorem bulk_lits {H : Type} (k : IntKind) (zs : List Int) : Rows.uptoBulkAll (lits (H := H) k zs) = zs.length := by
  unfold lits
  induction zs with
  | nil => simp [Rows.uptoBulkAll]
  | cons z r ih => simp only [List.map_cons, Rows.uptoBulkAll, Rows.uptoBulk, ih, List.length_cons]; omega
theorem bulk_three {H : Type} {d0 d1 d2 : DataW H} (hk : Rows.uptoSmall H [d0, d1, d2] = true) : Rows.uptoBulk d0 + Rows.uptoBulk d1 ≤ 1048576 := by
  have h := of_decide_eq_true hk
  simp only [Rows.uptoBulkAll] at h
  omega
theorem cellsI : Try.prog.cellsOf 21 = 1 := by kernel_rfl
section
variable {H : Type} {enc : TypeId × Value → H}
theorem range_i32 {n : Int} (h : (Lit.int .i32 n).wf = true) : -2147483648 ≤ n ∧ n ≤ 2147483647 := by
  simpa [Lit.wf, IntKind.min, IntKind.max, IntKind.signed, IntKind.bits] using h
theorem range_int {n : Int} (h : (Lit.int .i64 n).wf = true) : -9223372036854775808 ≤ n ∧ n ≤ 9223372036854775807 := by
  simpa [Lit.wf, IntKind.min, IntKind.max, IntKind.signed, IntKind.bits] using h
/-- A row of words, opened, with its bulk. -/
theorem open_row64b {W : World} {base : Nat} {v : Value} {d : DataW H} {p : List MemPlace} (hv : Value.okWide Try.prog W .any base 25 v) (h : DataW.Trod enc Try.prog W 0 (fun _ => true) true 25 v d p) :
    ∃ (ao : Option Addr) (b o cap : Nat) (L : List Nat), v = .slice ao L.length cap ∧ (L ≠ [] → ao = some ⟨b, o, none⟩) ∧ Small L ∧ L.length ≤ Rows.uptoBulk d ∧ RowU W b o L := by
  obtain ⟨a0, len, cap, rfl⟩ := okWide_slice Try.underlying25 hv
  obtain ⟨fuel, hf⟩ := h
  rcases open_ints Try.underlying25 Try.underlying22 cellsU hf with ⟨hcs, hx⟩ | ⟨a, len', cap', zs, hcs, _, hl, hm, hz, hx, hcell, hwz⟩
  · simp [Value.cells] at hcs
    obtain ⟨rfl, rfl, rfl⟩ := hcs
    exact ⟨none, 0, 0, 0, [], rfl, fun k => absurd rfl k, (fun x hx => by cases hx), Nat.zero_le _, (fun i hi => by simp at hi)⟩
  · simp [Value.cells] at hcs
    obtain ⟨rfl, rfl, rfl⟩ := hcs
    simp only [Prod.mk.injEq] at hx
    obtain ⟨rfl, rfl⟩ := hx
    simp only [if_true] at hz
    have hlen : ((zs.take len).map Int.toNat).length = len := by simp; omega
    obtain ⟨b, off, spot⟩ := a
    have hs : zs ≠ [] → spot = none := fun hne => by
      have h0 : 0 < zs.length := List.length_pos_iff.2 hne
      simpa [Addr.add] using World.cell?_spot (hcell 0 h0)
    refine ⟨some ⟨b, off, spot⟩, b, off, cap, (zs.take len).map Int.toNat, by rw [hlen], ?_, ?_, ?_, ?_⟩
    · intro hne
      rw [hs (fun k => hne (by rw [k]; simp))]
    · intro x hx
      obtain ⟨z, hz1, rfl⟩ := List.mem_map.1 hx
      obtain ⟨k, rfl, hk⟩ := nat_of_u64 (hwz z (List.mem_of_mem_take hz1))
      simpa using hk
    · rw [hlen]
      simp only [Rows.uptoBulk, bulk_lits, List.length_take, List.length_drop]
      omega
    · intro i hi
      rw [hlen] at hi
      have hi' : i < zs.length := by omega
      have hc := hcell i hi'
      have hs := hs (fun k => by rw [k] at hi'; simp at hi')
      subst hs
      rw [Addr.add_lit] at hc
      rw [hc]
      obtain ⟨k, hk, _⟩ := nat_of_u64 (hwz _ (List.getElem_mem hi'))
      simp [List.getD, hi', hk]
/-- A row of whole numbers of 32 bits, opened, with its bulk. -/
theorem open_row32b {W : World} {base : Nat} {v : Value} {d : DataW H} {p : List MemPlace} (hv : Value.okWide Try.prog W .any base 57 v) (h : DataW.Trod enc Try.prog W 0 (fun _ => true) true 57 v d p) :
    ∃ (ao : Option Addr) (b o cap : Nat) (L : List Int), v = .slice ao L.length cap ∧ (L ≠ [] → ao = some ⟨b, o, none⟩) ∧ Small32 L ∧ L.length ≤ Rows.uptoBulk d ∧ RowI W b o L := by
  obtain ⟨a0, len, cap, rfl⟩ := okWide_slice Try.underlying57 hv
  obtain ⟨fuel, hf⟩ := h
  rcases open_ints Try.underlying57 Try.underlying21 cellsI hf with ⟨hcs, hx⟩ | ⟨a, len', cap', zs, hcs, _, hl, hm, hz, hx, hcell, hwz⟩
  · simp [Value.cells] at hcs
    obtain ⟨rfl, rfl, rfl⟩ := hcs
    exact ⟨none, 0, 0, 0, [], rfl, fun k => absurd rfl k, (fun x hx => by cases hx), Nat.zero_le _, (fun i hi => by simp at hi)⟩
  · simp [Value.cells] at hcs
    obtain ⟨rfl, rfl, rfl⟩ := hcs
    simp only [Prod.mk.injEq] at hx
    obtain ⟨rfl, rfl⟩ := hx
    simp only [if_true] at hz
    have hlen : (zs.take len).length = len := by simp; omega
    obtain ⟨b, off, spot⟩ := a
    have hs : zs ≠ [] → spot = none := fun hne => by
      have h0 : 0 < zs.length := List.length_pos_iff.2 hne
      simpa [Addr.add] using World.cell?_spot (hcell 0 h0)
    refine ⟨some ⟨b, off, spot⟩, b, off, cap, zs.take len, by rw [hlen], ?_, ?_, ?_, ?_⟩
    · intro hne
      rw [hs (fun k => hne (by rw [k]; simp))]
    · intro x hx
      exact range_i32 (hwz x (List.mem_of_mem_take hx))
    · rw [hlen]
      simp only [Rows.uptoBulk, bulk_lits, List.length_take, List.length_drop]
      omega
    · intro i hi
      rw [hlen] at hi
      have hi' : i < zs.length := by omega
      have hc := hcell i hi'
      have hs := hs (fun k => by rw [k] at hi'; simp at hi')
      subst hs
      rw [Addr.add_lit] at hc
      rw [hc]
      simp [List.getD, hi']
end
theorem pairFollows_contract (H : Type) (enc : TypeId × Value → H) (W : World) (base : Nat) (args : Array Value) (ds gs : List (DataW H)) (before : List MemPlace)
    (hval0 : ∀ (j : Nat) t v, Try.f5.params[j]? = some t → args[j]? = some v → Value.okWide Try.prog W .any base t v)
    (hW : DataW.Whole enc Try.prog Try.f5.params.toList Rows.pairFollowsSpec.vars false W args.toList ds gs before) (hk : Rows.uptoSmall H (ds ++ gs) = true) :
    Calls Try.prog 5 args W fun e W' => ∃ v, e = .returned v ∧ Rows.pairFollowsSpec.post enc Try.prog Try.f5 false true false false W args v W' := by
  have hval := hval0
  have hW' := hW
  obtain ⟨p, q, hA0, hV, rfl, hfz, hnd⟩ := hW
  have hA : DataW.TrodAll enc Try.prog W 0 (fun _ => true) true Try.f5.params.toList args.toList ds p := hA0
  rw [Try.params5] at hA hval
  obtain ⟨v0, v1, v2, d0, d1, d2, p0, p1, p2, rfl, rfl, rfl, h0, h1, h2⟩ := trodAll_three hA
  obtain ⟨rfl, rfl⟩ := trodVars_none hV
  clear hA0 hval0
  simp only [List.append_nil] at hW' hk
  have hlt : ∀ x ∈ p0 ++ p1 ++ p2, x.block < W.heap.size := fun x hx => by simpa using hW'.lt x hx
  have hargs : ∀ (W' : World), Below W.heap.size W W' → DataW.TrodAll enc Try.prog W' 0 (fun b => decide (b < W.heap.size)) true [25, 57, 3] [v0, v1, v2] [d0, d1, d2] (p0 ++ p1 ++ p2) := fun W' hn => by
    rw [List.append_assoc]
    exact trodAll_mk3 (Below.trod laidOut (by kernel_rfl) (of_decide_eq_true (by kernel_rfl)) h0 hn (fun x hx => hlt x (by simp [hx])))
      (Below.trod laidOut (by kernel_rfl) (of_decide_eq_true (by kernel_rfl)) h1 hn (fun x hx => hlt x (by simp [hx])))
      (Below.trod laidOut (by kernel_rfl) (of_decide_eq_true (by kernel_rfl)) h2 hn (fun x hx => hlt x (by simp [hx])))
  have hbk := bulk_three hk
  obtain ⟨ao, b, o, cap, L, rfl, e1, e2, e3, e4⟩ := open_row64b (hval 0 25 v0 rfl rfl) h0
  obtain ⟨ao2, b2, o2, cap2, M, rfl, f1, f2, f3, f4⟩ := open_row32b (hval 1 57 v1 rfl rfl) h1
  obtain ⟨cut, rfl, rfl, rfl, wc⟩ := open_int Try.underlying3 (hval 2 3 v2 rfl rfl) h2
  obtain ⟨c0, c1⟩ := range_int wc
  refine (follows_walk ao b o cap L e1 e2 W e4 ao2 b2 o2 cap2 M f1 f2 f4 (by omega) cut c0 c1).mono fun e W' ⟨he, hg⟩ => ?_
  subst he
  exact ⟨_, rfl, _, _, _, [], _, [], hW', trodAll_mk1 (shut_bool Try.underlying4 _), hargs W' hg, rfl, hg.frame _, fun h => by cases h⟩
set_option maxRecDepth 100000 in
theorem pairFollows_lifted (os : Os) (started : os.Started) (H : Type) (enc : TypeId × Value → H) (F : Stop.Interp) :
    ReturnsInHanded {} Try.checked os 5 .any ((Rows.OpenSpec.upto Rows.pairFollowsSpec).pre6 enc Try.prog Try.f5 Rows.pairFollowsUptoRow.domain false) (((Rows.OpenSpec.upto Rows.pairFollowsSpec).at F).post enc Try.prog Try.f5 false true false false) := by
  refine returnsInHanded_of_cond (C := Try.checked) (s := Rows.OpenSpec.upto Rows.pairFollowsSpec) (k := Rows.uptoSmall) rfl own started (by kernel_rfl) Try.func5
    (OpenSpec.witness (enc := enc) (C := Try.checked) (s := Rows.OpenSpec.upto Rows.pairFollowsSpec) (k := Rows.uptoSmall) rfl false ⟨#[], #[.slice none 0 0, .slice none 0 0, .int .i64 0], []⟩ 8 (by kernel_rfl) (by kernel_rfl) (by kernel_rfl)
      (x := ([.nil, .nil, .lit (.int .i64 0)], [], [])) (by kernel_rfl) rfl (by kernel_rfl)) ?_
  intro W base args ds gs before hval hW _ hk _
  exact pairFollows_contract H enc W base args ds gs before hval hW hk
theorem pairFollows_upto : Rows.PairFollowsUptoSaid :=
  OpenClaim.holds_of_cond 5 Try.f5 rfl rfl rfl rfl rfl rfl rfl ⟨rfl, rfl, rfl, rfl, rfl⟩ rfl rfl rfl rfl rfl (by kernel_rfl) Try.func5 (by kernel_rfl)
    (of_decide_eq_true (by kernel_rfl)) (by unfold Func.isWrapper; first | (rw [if_pos (by decide +kernel)]; kernel_rfl) | (rw [if_neg (by decide +kernel)]; exact ⟨rfl, rfl⟩))
    (fun os started H enc _ F => pairFollows_lifted os started H enc F)
end Go.Proofs.Ytfilaeameofiaaa
