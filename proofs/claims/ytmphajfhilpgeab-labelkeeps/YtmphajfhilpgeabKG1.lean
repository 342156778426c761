/- LabelKeeps: the row. Own work of the verifier. -/
import Derived.Test.YtmphajfhilpgeabKF9
import Derived.Test.YtmphajfhilpgeabCC0
import Derived.Test.YtmphajfhilpgeabCC1
import Derived.Test.YtmphajfhilpgeabCM2
import Derived.ChangeMaps
import Derived.Test.YtmphajfhilpgeabCC5
namespace Go.Proofs.Ytmphajfhilpgeab
open Go.ChangeShapes Go.WideShapes Go.ChangeAt Go.RowKit Go.Joins

theorem desc_nil {H : Type} {enc : TypeId × Value → H} {W : World} {base : Nat} {v : Value} {d : DataW H} {pl : List MemPlace} (hv : Value.okWide Try.prog W .any base 24 v) (h : DataW.Trod enc Try.prog W 0 (fun _ => true) true 24 v d pl) :
    ∀ (k n h : Value) (ao : Option Addr) (m cap : Nat), v = .agg #[k, n, h, .slice ao m cap] → ao = none → cap = 0 := by
  intro k n hh ao m cap e e2
  subst e e2
  obtain ⟨fuel, hf⟩ := h
  obtain ⟨xs, n', _, hx, _, hlen, hfs⟩ := DataW.trod_struct Try.underlying24 hf
  match xs, hlen with
  | [y0, y1, y2, y3], _ =>
    have g3 := hfs 3 _ rfl
    simp [Value.cells, cellsSL] at g3
    rcases DataW.trod_slice Try.underlying22 g3 with ⟨q, _⟩ | ⟨a, len, cap', _, _, _, _, q, _⟩
    · simp at q
      exact q.2
    · simp at q
set_option maxRecDepth 100000 in
theorem labelKeeps_lifted (os : Os) (started : os.Started) (H : Type) (enc : TypeId × Value → H) :
    ReturnsInHanded {} Try.checked os 6 .any (Rows.labelKeepsSpec.pre6 enc Try.prog Try.f6 Rows.labelKeepsRow.domain false) (Rows.labelKeepsSpec.post enc Try.prog Try.f6 false true false false) := by
  refine returnsInHanded_of_change_sized (C := Try.checked) own started (by kernel_rfl) Try.func6
    (ChangeSpec.witness6 (enc := enc) (C := Try.checked) false ⟨#[], #[.agg #[.int .i64 0, .string ⟨#[]⟩, .string ⟨#[]⟩, .slice none 0 0], .string ⟨#[]⟩], []⟩ 8 (by kernel_rfl) (by kernel_rfl) (by kernel_rfl) (by kernel_rfl)) ?_
  intro W base args ds gs before hval0 hW _ hsz0 _
  have hsz : (DataW.weightsEach Try.prog (Try.f6.params.toList ++ Rows.labelKeepsSpec.plain.varTypes Try.prog) (ds ++ gs)).all (· ≤ reachBytes) = true := hsz0
  have hval : ∀ (j : Nat) t v, Try.f6.params[j]? = some t → args[j]? = some v → Value.okWide Try.prog W .any base t v := hval0
  have hW' := hW
  obtain ⟨p, q, hA0, hV, rfl, hfz, hnd⟩ := hW
  have hA : DataW.TrodAll enc Try.prog W 0 (fun _ => true) true Try.f6.params.toList args.toList ds p := hA0
  rw [Try.params6] at hA hval hsz
  obtain ⟨v0, v1, d0, d1, p0, p1, rfl, rfl, rfl, h0, h1⟩ := trodAll_two hA
  obtain ⟨rfl, rfl⟩ := trodVars_none hV
  clear hA0 hval0 hsz0
  simp only [List.append_nil] at hW'
  have hlt : ∀ x ∈ p0 ++ p1, x.block < W.heap.size := fun x hx => by simpa using hW'.lt x hx
  simp only [List.append_nil, List.cons_append, List.nil_append, DataW.weightsEach, List.all_append, Bool.and_eq_true] at hsz
  have hargs : ∀ (W' : World), Below W.heap.size W W' → DataW.TrodAll enc Try.prog W' 0 (fun b => decide (b < W.heap.size)) true [24, 9] [v0, v1] [d0, d1] (p0 ++ p1) := fun W' hn =>
    trodAll_mk2 (Below.trod laidOut (by kernel_rfl) (of_decide_eq_true (by kernel_rfl)) h0 hn (fun x hx => hlt x (by simp [hx])))
      (Below.trod laidOut (by kernel_rfl) (of_decide_eq_true (by kernel_rfl)) h1 hn (fun x hx => hlt x (by simp [hx])))
  obtain ⟨D, a1, a2, a3, a4⟩ := open_desc (hval 0 24 v0 rfl rfl) h0 hsz.1
  have hw1 : (d1.weights Try.prog 9).all (· ≤ reachBytes) = true := hsz.2.1
  obtain ⟨s, hv0, hd0, _, _⟩ := Go.ChangeMaps.open_string Try.underlying9 (hval 1 9 v1 rfl rfl) h1
  have hlen : s.data.toList.length ≤ 140737488351232 := by
    rw [hd0] at hw1
    unfold reachBytes at hw1
    simpa [DataW.weights] using hw1
  have hs : s = ⟨s.data.toList.toArray⟩ := ByteArray.ext (by simp)
  have hv : v1 = .string ⟨s.data.toList.toArray⟩ := hv0.trans (congrArg Value.string hs)
  have hnn := desc_nil (hval 0 24 v0 rfl rfl) h0
  have hwalk := keeps_walk D v0 s.data.toList hlen W a1 a2 (dss_of a2 a3 a4) a4 hnn
  rw [← hv] at hwalk
  refine hwalk.mono fun e W' ⟨he, hb⟩ => ?_
  subst he
  exact ⟨_, rfl, _, _, _, [], _, [], hW', trodAll_mk1 (shut_bool Try.underlying4 _), hargs W' hb, rfl, hb.frame _, fun h => by cases h⟩
theorem labelKeeps_holds : Rows.LabelKeepsSaid :=
  OpenClaim.holds_of_wide 6 Try.f6 rfl rfl rfl rfl rfl rfl rfl ⟨rfl, rfl, rfl, rfl, rfl⟩ rfl rfl rfl rfl rfl (by kernel_rfl) Try.func6 (by kernel_rfl)
    (of_decide_eq_true (by kernel_rfl)) (by unfold Func.isWrapper; first | (rw [if_pos (by decide +kernel)]; kernel_rfl) | (rw [if_neg (by decide +kernel)]; exact ⟨rfl, rfl⟩))
    (fun os started H enc _ => labelKeeps_lifted os started H enc)
end Go.Proofs.Ytmphajfhilpgeab
