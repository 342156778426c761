/- LabelHelps: the row of the second form. Own work of the verifier. -/
import Derived.Test.YtmphajfhilpgeaaCC8
namespace Go.Proofs.Ytmphajfhilpgeaa
open Go.ChangeShapes Go.WideShapes Go.ChangeAt Go.RowKit Go.Joins

section
variable {H : Type} {enc : TypeId × Value → H}
set_option maxRecDepth 100000 in
/-- A row of texts, opened. -/
theorem open_textsU {W : World} {base : Nat} {v : Value} {d : DataW H} {p : List MemPlace} (hv : Value.okWide Try.prog W .any base 23 v) (h : DataW.Trod enc Try.prog W 0 (fun _ => true) true 23 v d p) (hk : Rows.uptoBulk d ≤ 1048576) :
    ∃ (ao : Option Addr) (b o cap : Nat) (L : List (List UInt8)), v = .slice ao L.length cap ∧ (L ≠ [] → ao = some ⟨b, o, none⟩) ∧ (∀ x ∈ L, x.length ≤ 1048576) ∧ L.length ≤ 9223372036854775807 ∧ RowS W b o L := by
  have hM : maxLen = 9223372036854775807 := by unfold maxLen; decide
  obtain ⟨a0, len, cap, rfl⟩ := okWide_slice Try.underlying23 hv
  obtain ⟨fuel, hf⟩ := h
  rcases open_strings Try.underlying23 Try.underlying9 cellsS hf with ⟨hcs, hx⟩ | ⟨a, len', cap', ss, hcs, _, hl, hm, hz, hx, hcell, hsz⟩
  · simp [Value.cells] at hcs
    obtain ⟨rfl, rfl, rfl⟩ := hcs
    exact ⟨none, 0, 0, 0, [], rfl, fun k => absurd rfl k, (fun x hx => by cases hx), by decide, (fun i hi => by simp at hi)⟩
  · simp [Value.cells] at hcs
    obtain ⟨rfl, rfl, rfl⟩ := hcs
    simp only [if_true] at hz
    rw [hM] at hm hsz
    have hlen : ((ss.take len).map fun s => s.data.toList).length = len := by simp; omega
    have hd : d = .slice (strs (ss.take len)) (strs (ss.drop len)) := (Prod.mk.inj hx).1
    obtain ⟨b, off, spot⟩ := a
    refine ⟨some ⟨b, off, spot⟩, b, off, cap, (ss.take len).map fun s => s.data.toList, by rw [hlen], ?_, ?_, ?_, ?_⟩
    · intro hne
      have h0 : 0 < ss.length := by
        rcases Nat.eq_zero_or_pos ss.length with k | k
        · exact absurd (by rw [List.length_eq_zero_iff.1 k]; simp) hne
        · exact k
      have hs : spot = none := by simpa [Addr.add] using World.cell?_spot (hcell 0 h0)
      rw [hs]
    · intro x hx
      obtain ⟨s, hs, rfl⟩ := List.mem_map.1 hx
      rw [hd] at hk
      simp only [Rows.uptoBulk] at hk
      have key : ∀ l : List ByteArray, s ∈ l → s.size ≤ Rows.uptoBulkAll (H := H) (strs l) := fun l hs => by
        induction l with
        | nil => cases hs
        | cons y r ih =>
          unfold strs
          rw [List.map_cons, Rows.uptoBulkAll]
          rcases List.mem_cons.1 hs with rfl | h
          · simp only [Rows.uptoBulk]
            have : s.data.toList.length = s.size := rfl
            omega
          · have := ih h
            unfold strs at this
            omega
      have := key _ hs
      show s.data.toList.length ≤ _
      have e : s.data.toList.length = s.size := rfl
      omega
    · rw [hlen]; omega
    · intro i hi
      have hi2 : i < len := by rw [hlen] at hi; exact hi
      have hi' : i < ss.length := by omega
      have hs : spot = none := by simpa [Addr.add] using World.cell?_spot (hcell 0 (by omega))
      have hc := hcell i hi'
      subst hs
      rw [Addr.add_lit] at hc
      rw [hc]
      simp [List.getD, hi']
theorem bulk_one {d : DataW H} (hk : Rows.uptoSmall H [d] = true) : Rows.uptoBulk d ≤ 1048576 := by
  unfold Rows.uptoSmall at hk
  have := of_decide_eq_true hk
  simp only [Rows.uptoBulkAll] at this
  omega
end
theorem labelHelps_contract (H : Type) (enc : TypeId × Value → H) (W : World) (base : Nat) (args : Array Value) (ds gs : List (DataW H)) (before : List MemPlace)
    (hval0 : ∀ (j : Nat) t v, Try.f8.params[j]? = some t → args[j]? = some v → Value.okWide Try.prog W .any base t v)
    (hW : DataW.Whole enc Try.prog Try.f8.params.toList Rows.labelHelpsSpec.vars false W args.toList ds gs before) (hk : Rows.uptoSmall H (ds ++ gs) = true) :
    Calls Try.prog 8 args W fun e W' => ∃ v, e = .returned v ∧ Rows.labelHelpsSpec.post enc Try.prog Try.f8 false true false false W args v W' := by
  have hval := hval0
  have hW' := hW
  obtain ⟨p, q, hA0, hV, rfl, hfz, hnd⟩ := hW
  have hA : DataW.TrodAll enc Try.prog W 0 (fun _ => true) true Try.f8.params.toList args.toList ds p := hA0
  rw [Try.params8] at hA hval
  obtain ⟨v0, d0, rfl, rfl, h0⟩ := trodAll_one hA
  obtain ⟨rfl, rfl⟩ := trodVars_none hV
  clear hA0 hval0
  simp only [List.append_nil] at hW' hk
  have hlt : ∀ x ∈ p, x.block < W.heap.size := fun x hx => by simpa using hW'.lt x hx
  have hargs : ∀ (W' : World), Below W.heap.size W W' → DataW.TrodAll enc Try.prog W' 0 (fun b => decide (b < W.heap.size)) true [23] [v0] [d0] p := fun W' hn =>
    trodAll_mk1 (Below.trod laidOut (by kernel_rfl) (of_decide_eq_true (by kernel_rfl)) h0 hn (fun x hx => hlt x hx))
  obtain ⟨ao, b, o, cap, L, rfl, e1, e2, e3, e4⟩ := open_textsU (hval 0 23 v0 rfl rfl) h0 (bulk_one hk)
  refine (helps_walk ao b o cap L e1 e2 e3 W e4).mono fun e W' ⟨he, hb⟩ => ?_
  subst he
  exact ⟨_, rfl, _, _, _, [], _, [], hW', trodAll_mk1 (shut_bool Try.underlying4 _), hargs W' hb, rfl, hb.frame _, fun h => by cases h⟩
set_option maxRecDepth 100000 in
theorem labelHelps_lifted (os : Os) (started : os.Started) (H : Type) (enc : TypeId × Value → H) (F : Stop.Interp) :
    ReturnsInHanded {} Try.checked os 8 .any ((Rows.OpenSpec.upto Rows.labelHelpsSpec).pre6 enc Try.prog Try.f8 Rows.labelHelpsUptoRow.domain false) (((Rows.OpenSpec.upto Rows.labelHelpsSpec).at F).post enc Try.prog Try.f8 false true false false) := by
  refine returnsInHanded_of_cond (C := Try.checked) (s := Rows.OpenSpec.upto Rows.labelHelpsSpec) (k := Rows.uptoSmall) rfl own started (by kernel_rfl) Try.func8
    (OpenSpec.witness (enc := enc) (C := Try.checked) (s := Rows.OpenSpec.upto Rows.labelHelpsSpec) (k := Rows.uptoSmall) rfl false ⟨#[], #[.slice none 0 0], []⟩ 8 (by kernel_rfl) (by kernel_rfl) (by kernel_rfl)
      (x := ([.nil], [], [])) (by kernel_rfl) rfl (by kernel_rfl)) ?_
  intro W base args ds gs before hval hW _ hk _
  exact labelHelps_contract H enc W base args ds gs before hval hW hk
theorem labelHelps_upto : Rows.LabelHelpsUptoSaid :=
  OpenClaim.holds_of_cond 8 Try.f8 rfl rfl rfl rfl rfl rfl rfl ⟨rfl, rfl, rfl, rfl, rfl⟩ rfl rfl rfl rfl rfl (by kernel_rfl) Try.func8 (by kernel_rfl)
    (of_decide_eq_true (by kernel_rfl)) (by unfold Func.isWrapper; first | (rw [if_pos (by decide +kernel)]; kernel_rfl) | (rw [if_neg (by decide +kernel)]; exact ⟨rfl, rfl⟩))
    (fun os started H enc _ F => labelHelps_lifted os started H enc F)
end Go.Proofs.Ytmphajfhilpgeaa
