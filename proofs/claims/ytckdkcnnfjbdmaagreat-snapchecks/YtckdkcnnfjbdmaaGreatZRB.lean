/- SnapChecks: walk and row. Own work of the verifier. -/
import Derived.Test.YtckdkcnnfjbdmaaGreatZRA
import Derived.Test.YtckdkcnnfjbdmaaGreatZD3
namespace Go.Proofs.YtckdkcnnfjbdmaaGreat
open Go.ChangeShapes Go.WideShapes Go.ChangeAt Go.RowKit Go.Joins Me

set_option maxRecDepth 100000 in
set_option maxHeartbeats 1000000 in
theorem checks_walk (s : Sn) (v : Value) (h : SnW s) (w : World) (hv : SnAt w s v) :
    Calls Tryz.prog 4 #[v] w fun r w' => r = .returned (.bool true) ∧ Below w.heap.size w w' := by
  have HA : Hid (∀ W, Calls Tryz.prog 9 #[] W fun r w' => r = .returned (.bool true) ∧ Below W.heap.size W w') := fun W => fixed_any W
  obtain ⟨u, rfl, hu⟩ := hv
  have H1 : Hid (∀ W, Below w.heap.size w W → Calls Tryz.prog 10 #[.agg #[.int .i64 s.p, u, .int .u64 (s.r : Int)]] W fun e w' => e = two (chkS s).1 ((chkS s).2 : Nat) ∧ Below W.heap.size W w') := fun W hb => check_any s _ h W ⟨u, rfl, hu.below hb⟩
  have H2 : Hid (∀ W, Below w.heap.size w W → Calls Tryz.prog 11 #[.agg #[.int .i64 s.p, u, .int .u64 (s.r : Int)]] W fun e w' => e = two (chkS s).1 ((chkS s).2 : Nat) ∧ Below W.heap.size W w') := fun W hb => rcheck_any s _ h W ⟨u, rfl, hu.below hb⟩
  obtain ⟨ao, b, o, cap, rfl, -⟩ := hu.open
  have HX := hid_of (fun T => (⟨by simp [go_sem], by simp [go_sem], by simp [go_sem]⟩ : ((w.alloc (.cells #[.int .i64 s.p, .slice ao s.vs.length cap, .int .u64 (s.r : Int)] T)).cell? ⟨w.heap.size, 0, none⟩ = some (.int .i64 s.p) ∧ (w.alloc (.cells #[.int .i64 s.p, .slice ao s.vs.length cap, .int .u64 (s.r : Int)] T)).cell? ⟨w.heap.size, 1, none⟩ = some (.slice ao s.vs.length cap) ∧ (w.alloc (.cells #[.int .i64 s.p, .slice ao s.vs.length cap, .int .u64 (s.r : Int)] T)).cell? ⟨w.heap.size, 2, none⟩ = some (.int .u64 (s.r : Int)))))
  obtain ⟨c1, n1, hc⟩ : ∃ c1 n1, chkS s = (c1, n1) := ⟨_, _, rfl⟩
  rw [hc] at H1 H2
  simp only at H1 H2
  clear hu h hc
  go_enter Tryz.func4, Tryz.ntmps4
  go_upto_region 1 with fail
  obtain ⟨a0, a1, a2⟩ := HX.out 26
  have B0 := hid_of (bel1 w (.cells #[.int .i64 s.p, .slice ao s.vs.length cap, .int .u64 (s.r : Int)] 26))
  clear HX
  generalize w.alloc (.cells #[.int .i64 s.p, .slice ao s.vs.length cap, .int .u64 (s.r : Int)] 26) = w0 at *
  go_wp2_with (first
    | (go_at_call 10; (with_reducible refine (H1.out _ B0.out).mono ?_); rintro e w1 ⟨rfl, hb1⟩; have a0 := cellB hb1 a0; have a1 := cellB hb1 a1; have a2 := cellB hb1 a2; have B1 := hid_of (bt B0.out hb1))
    | (go_at_call 11; (with_reducible refine (H2.out _ B1.out).mono ?_); rintro e w2 ⟨rfl, hb2⟩; have B2 := hid_of (bt B1.out hb2))
    | (go_at_call 9; (with_reducible refine (HA.out _).mono ?_); rintro e w3 ⟨rfl, hb3⟩))
  go_ret
  exact ⟨rfl, bt B2.out hb3⟩
set_option maxRecDepth 100000 in
theorem snapChecks_lifted (os : Os) (started : os.Started) (H : Type) (enc : TypeId × Value → H) :
    ReturnsInHanded {} Tryz.checked os 4 .any (Rows.snapChecksSpec.pre6 enc Tryz.prog Tryz.f4 Rows.snapChecksRow.domain false) (Rows.snapChecksSpec.post enc Tryz.prog Tryz.f4 false true false false) := by
  refine returnsInHanded_of_change_sized (C := Tryz.checked) own started (by kernel_rfl) Tryz.func4
    (ChangeSpec.witness6 (enc := enc) (C := Tryz.checked) false ⟨#[], #[.agg #[.int .i64 0, .slice none 0 0, .int .u64 0]], []⟩ 8 (by kernel_rfl) (by kernel_rfl) (by kernel_rfl) (by kernel_rfl)) ?_
  intro W base args ds gs before hval0 hW _ hz _
  have hval : ∀ (j : Nat) t v, Tryz.f4.params[j]? = some t → args[j]? = some v → Value.okWide Tryz.prog W .any base t v := hval0
  have hW' := hW
  obtain ⟨p, q, hA0, hV, rfl, hfz, hnd⟩ := hW
  have hA : DataW.TrodAll enc Tryz.prog W 0 (fun _ => true) true Tryz.f4.params.toList args.toList ds p := hA0
  rw [Tryz.params4] at hA hval hz
  obtain ⟨v0, d0, rfl, rfl, h0⟩ := trodAll_one hA
  obtain ⟨rfl, rfl⟩ := trodVars_none hV
  clear hA0 hval0
  simp only [List.append_nil] at hW'
  have hlt : ∀ x ∈ p, x.block < W.heap.size := fun x hx => by simpa using hW'.lt x (by simp [hx])
  have harg : ∀ (W' : World), Below W.heap.size W W' → DataW.Trod enc Tryz.prog W' 0 (fun b => decide (b < W.heap.size)) true 26 v0 d0 p := fun W' hn =>
    Below.trod laidOut (by kernel_rfl) (of_decide_eq_true (by kernel_rfl)) h0 hn hlt
  have hw0 : (d0.weights Tryz.prog 26).all (· ≤ reachBytes) = true := by
    simp only [List.cons_append, List.nil_append, List.append_nil, DataW.weightsEach, List.all_append, Bool.and_eq_true] at hz
    exact hz.1
  obtain ⟨s, hs, hsw⟩ := open_snap (hval 0 26 v0 rfl rfl) h0 hw0
  refine (checks_walk s v0 hsw W hs).mono fun e W' ⟨he, hg⟩ => ?_
  subst he
  exact ⟨_, rfl, _, _, _, [], _, [], hW', trodAll_mk1 (shut_bool Tryz.underlying4 _), trodAll_mk1 (harg W' hg), rfl, hg.frame _, fun h => by cases h⟩
theorem snapChecks_holds : Rows.SnapChecksSaid :=
  OpenClaim.holds_of_wide 4 Tryz.f4 rfl rfl rfl rfl rfl rfl rfl ⟨rfl, rfl, rfl, rfl, rfl⟩ rfl rfl rfl rfl rfl (by kernel_rfl) Tryz.func4 (by kernel_rfl)
    (of_decide_eq_true (by kernel_rfl)) (by unfold Func.isWrapper; first | (rw [if_pos (by decide +kernel)]; kernel_rfl) | (rw [if_neg (by decide +kernel)]; exact ⟨rfl, rfl⟩))
    (fun os started H enc _ => snapChecks_lifted os started H enc)
end Go.Proofs.YtckdkcnnfjbdmaaGreat
