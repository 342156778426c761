/- RULES: the two texts that the law's awake reads. Own work of the verifier. -/
import Derived.Test.YtoaaijohmfaphaaGreatDoorSBK
import Derived.Test.YtoaaijohmfaphaaGreatDoorSAK
import Derived.Test.YtoaaijohmfaphaaGreatDoorSAT
import Derived.Test.YtoaaijohmfaphaaGreatDoorSBI
import Derived.OwnWalk
import Derived.Laws.OwnMore
namespace Go.Proofs.YtoaaijohmfaphaaGreatDoor.Ru
open Go.RowKit Go.Sort Me

/-- The float of the one digit that those texts have read. -/
def dPR (l : List UInt8) : Option Nat := if l = [49] then some 4607182418800017408 else none
theorem dPr_at (u : World) (h : Rl.Glob2 u) : PrAt dPR u [49] := by
  intro W hb
  refine (Rl.dreal_1 W (h.below hb)).mono ?_
  rintro e w' ⟨rfl, hb⟩
  exact ⟨Or.inl ⟨_, by unfold dPR; rw [if_pos rfl], rfl⟩, hb⟩
/-- The places of numbers, one by one. -/
def hitL (PR : List UInt8 → Option Nat) (T : List UInt8) : Nat → St → List St
  | 0, s => match bgn (rst T (beg s)) with
    | 2 => [beg s]
    | _ => []
  | f + 1, s => match bgn (rst T (beg s)) with
    | 1 => hitL PR T f (mst T [40] (beg s)) ++ hitL PR T f (mst T [32] (namF isSg [4, 5, 6] T (mst T [32] (rulF PR T f (mst T [40] (beg s))).2)).2)
    | 2 => [beg s]
    | 3 => if (kwA (namF isLt [2, 3, 7] T (beg s)).1).1 = 7 then hitL PR T f (mst T [40] (namF isLt [2, 3, 7] T (beg s)).2) else []
    | _ => []
theorem hit_mem {PR : List UInt8 → Option Nat} {T : List UInt8} : ∀ {f : Nat} {s z : St}, hitF PR T f s z → z ∈ hitL PR T f s
  | 0, s, z, h => by
    obtain ⟨h1, rfl⟩ := h
    unfold hitL
    rw [h1]
    exact List.mem_singleton.2 rfl
  | f + 1, s, z, h => by
    unfold hitL
    rcases h with ⟨h1, rfl⟩ | ⟨s', ⟨h1, rfl | rfl⟩ | ⟨h1, h2, rfl⟩, h3⟩
    · rw [h1]
      exact List.mem_singleton.2 rfl
    · rw [h1]
      exact List.mem_append.2 (Or.inl (hit_mem h3))
    · rw [h1]
      exact List.mem_append.2 (Or.inr (hit_mem h3))
    · rw [h1]
      show z ∈ (if (kwA (namF isLt [2, 3, 7] T (beg s)).1).1 = 7 then hitL PR T f (mst T [40] (namF isLt [2, 3, 7] T (beg s)).2) else [])
      rw [if_pos h2]
      exact hit_mem h3
abbrev tx1 : List UInt8 := [40, 49, 32, 60, 32, 116, 111, 116, 97, 108, 40, 97, 44, 32, 53, 41, 41]
abbrev tx2 : List UInt8 := [49, 32, 43, 32, 50]
abbrev rl1 : RT := .mk 13 0 [] [] 0 0 0 [.mk 1 4607182418800017408 [] [] 0 0 0 [], .mk 2 0 [97] [] 5 0 0 []]
theorem whl1 : whlF dPR tx1 ⟨0, 0, 0⟩ = (rl1, ⟨17, 0, 3⟩) := by kernel_rfl
theorem whl2 : (whlF dPR tx2 ⟨0, 0, 0⟩).2 = ⟨1, 5, 1⟩ := by kernel_rfl
theorem hits1 : (hitL dPR tx1 512 ⟨0, 0, 0⟩).map (rowF isNm tx1) = [[49]] := by kernel_rfl
theorem hits2 : (hitL dPR tx2 512 ⟨0, 0, 0⟩).map (rowF isNm tx2) = [[49]] := by kernel_rfl
theorem dnum_of {T : List UInt8} (h : (hitL dPR T 512 ⟨0, 0, 0⟩).map (rowF isNm T) = [[49]]) {z : St} (hz : hitF dPR T 512 ⟨0, 0, 0⟩ z) : rowF isNm T z = [49] := by
  have := List.mem_map_of_mem (f := rowF isNm T) (hit_mem hz)
  rw [h] at this
  exact List.mem_singleton.1 this
theorem ck1 : ckE rl1 = 0 := by decide +kernel
theorem sz1 : ∀ s ∈ nds rl1, szN s ∧ szI s := by
  intro s hs
  have : s = rl1 ∨ s = .mk 1 4607182418800017408 [] [] 0 0 0 [] ∨ s = .mk 2 0 [97] [] 5 0 0 [] := by simpa [nds, ndsL] using hs
  rcases this with rfl | rfl | rfl
  all_goals exact ⟨⟨by decide, by decide, by decide, fun a ha => by cases ha⟩, by decide, by decide, by decide⟩
theorem wr1 : wrT rl1 = tx1 := by
  simp only [wrT, wrTs, Rl.dtext_1]
  kernel_rfl
theorem parse1 (w : World) (he : Env w) : Calls Tryz.prog 9 #[.string ⟨#[40, 49, 32, 60, 32, 116, 111, 116, 97, 108, 40, 97, 44, 32, 53, 41, 41]⟩] w fun e w' => (∃ v, e = .returned (.tuple #[v, .int .i64 0, .int .i64 0]) ∧ RV 0 w' rl1 v) ∧ Below w.heap.size w w' := by
  have := parse_any dPR (fun t => (ckE t).toNat) tx1 (by decide) w he (fun _ u hb z hz => by rw [dnum_of hits1 hz]; exact dPr_at u (he.below hb).gl) (fun _ _ => by
    rw [whl1]
    exact ckAt_of rl1 w (fun s hs => (sz1 s hs).1) he.kd)
  refine this.mono ?_
  rintro e w' ⟨hq, hb⟩
  refine ⟨?_, hb⟩
  unfold PsQ at hq
  rw [whl1] at hq
  rcases hq with ⟨z, a, hz, -, ⟨h, -⟩ | ⟨-, h, -⟩ | ⟨-, -, h, -⟩⟩ | ⟨-, -, -, v, h1, h2⟩
  · exact absurd h (by decide)
  · exact absurd h hz
  · dsimp only at h; rw [ck1] at h; exact absurd h hz
  · exact ⟨v, h1, h2.mono (Nat.zero_le _)⟩
theorem parse2 (w : World) (he : Env w) : Calls Tryz.prog 9 #[.string ⟨#[49, 32, 43, 32, 50]⟩] w fun e w' => e = .returned (.tuple #[rx 0 0 [] (.slice none 0 0) 0 0 0 (.slice none 0 0), .int .i64 5, .int .i64 1]) ∧ Below w.heap.size w w' := by
  have := parse_any dPR (fun t => (ckE t).toNat) tx2 (by decide) w he (fun _ u hb z hz => by rw [dnum_of hits2 hz]; exact dPr_at u (he.below hb).gl) (fun _ h => by
    rw [whl2] at h
    cases h)
  refine this.mono ?_
  rintro e w' ⟨hq, hb⟩
  refine ⟨?_, hb⟩
  unfold PsQ at hq
  rw [whl2] at hq
  rcases hq with ⟨z, a, hz, h1, ⟨h, -⟩ | ⟨-, h, h'⟩ | ⟨-, h, -⟩⟩ | ⟨-, h, -⟩
  · exact absurd h (by decide)
  · rw [h1, h, h']; rfl
  · cases h
  · cases h
theorem print1 (v : Value) (w : World) (hv : RV 0 w rl1 v) (he : Env w) : Calls Tryz.prog 8 #[v] w fun e w' => e = .returned (.tuple #[.string ⟨#[40, 49, 32, 60, 32, 116, 111, 116, 97, 108, 40, 97, 44, 32, 53, 41, 41]⟩, .int .i64 0]) ∧ Below w.heap.size w w' := by
  refine (rprint_any rl1 v w hv sz1 (fun _ => by rw [wr1]; decide) he).mono ?_
  rintro e w' ⟨hq, hb⟩
  refine ⟨?_, hb⟩
  unfold PnQ at hq
  rw [wr1, ck1] at hq
  rcases hq with ⟨h, -⟩ | ⟨-, h, -⟩ | ⟨-, -, h⟩
  · exact absurd rfl h
  · exact absurd h (by decide)
  · exact h
theorem type1 (v : Value) (w : World) (hv : RV 0 w rl1 v) (h : Kd w) : Calls Tryz.prog 12 #[v] w fun e w' => e = .returned (.tuple #[.bool true, .int .i64 0]) ∧ Below w.heap.size w w' := by
  refine (type_any rl1 v w hv (fun s hs => (sz1 s hs).1) h).mono ?_
  rintro e w' ⟨rfl, hb⟩
  refine ⟨?_, hb⟩
  rw [ck1, if_pos rfl]
  rfl
end Go.Proofs.YtoaaijohmfaphaaGreatDoor.Ru
/- RULES: awake; RulesNames' walk. Own work of the verifier. -/
namespace Go.Proofs.YtoaaijohmfaphaaGreatDoor.Ru
open Go.RowKit Go.Sort Me

set_option maxHeartbeats 1000000 in
theorem rnew2 (w : World) : Calls Tryz.prog 13 #[.int .i64 2] w fun e w' => e = .returned (.tuple #[.pointer (some ⟨w.heap.size, 0, none⟩), .int .i64 0]) ∧ Below w.heap.size w w' := by
  go_enter Tryz.func13, Tryz.ntmps13
  go_wp2
  simp [bodyPost, results, Tryz.results13, go_sem]
  exact bel1 _ _
theorem two_two : (FloatKind.f64.format.order 4611686018427387904 4611686018427387904 == some .eq) = true := by decide +kernel
set_option maxHeartbeats 4000000 in
set_option maxRecDepth 100000 in
theorem awake_any (w : World) (he : Env w) : Calls Tryz.prog 4 #[] w fun e w' => e = .returned (.bool true) ∧ Below w.heap.size w w' := by
  have HP1 : Hid (∀ W, Below w.heap.size w W → Calls Tryz.prog 9 #[.string ⟨#[40, 49, 32, 60, 32, 116, 111, 116, 97, 108, 40, 97, 44, 32, 53, 41, 41]⟩] W fun e w' => (∃ v, e = .returned (.tuple #[v, .int .i64 0, .int .i64 0]) ∧ RV 0 w' rl1 v) ∧ Below W.heap.size W w') := fun W hb => parse1 W (he.below hb)
  have HP2 : Hid (∀ W, Below w.heap.size w W → Calls Tryz.prog 9 #[.string ⟨#[49, 32, 43, 32, 50]⟩] W fun e w' => e = .returned (.tuple #[rx 0 0 [] (.slice none 0 0) 0 0 0 (.slice none 0 0), .int .i64 5, .int .i64 1]) ∧ Below W.heap.size W w') := fun W hb => parse2 W (he.below hb)
  have HPn : Hid (∀ v W, Below w.heap.size w W → RV 0 W rl1 v → Calls Tryz.prog 8 #[v] W fun e w' => e = .returned (.tuple #[.string ⟨#[40, 49, 32, 60, 32, 116, 111, 116, 97, 108, 40, 97, 44, 32, 53, 41, 41]⟩, .int .i64 0]) ∧ Below W.heap.size W w') := fun v W hb hv => print1 v W hv (he.below hb)
  have HTy : Hid (∀ v W, Below w.heap.size w W → RV 0 W rl1 v → Calls Tryz.prog 12 #[v] W fun e w' => e = .returned (.tuple #[.bool true, .int .i64 0]) ∧ Below W.heap.size W w') := fun v W hb hv => type1 v W hv (he.kd.below hb)
  have HNw : Hid (∀ W : World, Calls Tryz.prog 13 #[.int .i64 2] W fun e w' => e = .returned (.tuple #[.pointer (some ⟨W.heap.size, 0, none⟩), .int .i64 0]) ∧ Below W.heap.size W w') := fun W => rnew2 W
  have HEv : Hid (∀ p W, Below w.heap.size w W → Calls Tryz.prog 14 #[.pointer p, .int .i64 0, rx 1 4611686018427387904 [] (.slice none 0 0) 0 0 0 (.slice none 0 0)] W fun e w' => e = .returned (.tuple #[.agg #[.bool false, .bool false, .float .f64 4611686018427387904], .int .i64 0]) ∧ Below W.heap.size W w') := fun p W hb => eval_two _ ⟨p, rfl⟩ W (he.kd.below hb)
  have hf2 := two_two
  have sF := store_f
  clear he
  go_enter Tryz.func4, Tryz.ntmps4
  go_wp2_with fail
  refine Calls.mono (HP1.out _ (Below.refl _ _)) ?_
  rintro e w1 ⟨⟨v, rfl, hv⟩, hb1⟩
  unfold RV at hv
  obtain ⟨lv, ao, b, o, cap, rfl, hl, hao, hc1, hc2, hrs⟩ := hv
  obtain ⟨la, lb0, lo, lc, rfl, hlr⟩ := hl
  have hv1 : RV 0 w1 rl1 (rx 13 0 [] (.slice la 0 lc) 0 0 0 (.slice ao 2 cap)) := by
    unfold RV
    exact ⟨_, ao, b, o, cap, rfl, ⟨la, lb0, lo, lc, rfl, hlr⟩, hao, hc1, hc2, hrs⟩
  have hX := bel1 w1 (.cells (rc 13 0 [] (.slice la 0 lc) 0 0 0 (.slice ao 2 cap)) 26)
  have hn := new_1 w1 (.cells (rc 13 0 [] (.slice la 0 lc) 0 0 0 (.slice ao 2 cap)) 26)
  have HV := hid_of (hv1.below hX)
  have HB := hid_of (bt hb1 hX)
  have HN := hid_of hn
  clear hv1 hX hn hb1 hao hc1 hc2 hrs hlr HP1
  go_upto_region 2 with fail
  generalize w1.alloc (.cells (rc 13 0 [] (.slice la 0 lc) 0 0 0 (.slice ao 2 cap)) 26) = W2 at *
  generalize w1.heap.size = gx at *
  go_wp2_with fail
  refine Calls.mono (HP2.out _ HB.out) ?_
  rintro e w3 ⟨rfl, hb3⟩
  have hX := hb3.trans ((bel1 w3 (.cells (rc 0 0 [] (.slice none 0 0) 0 0 0 (.slice none 0 0)) 26)).mono hb3.size)
  have HV3 := hid_of (HV.out.below hX)
  have HB3 := hid_of (bt HB.out hX)
  have HN3 := hid_of ((hX.block _ (Array.getElem?_eq_some_iff.1 HN.out).1).trans HN.out)
  clear HV HB HN hX hb3 HP2
  go_upto_region 3 with fail
  generalize w3.alloc (.cells (rc 0 0 [] (.slice none 0 0) 0 0 0 (.slice none 0 0)) 26) = W4 at *
  generalize w3.heap.size = gy at *
  obtain ⟨y0, y1, y2, y3, y4, y5, y6, y7⟩ := eight HN3.out
  go_wp2_with fail
  refine Calls.mono (HPn.out _ _ HB3.out HV3.out) ?_
  rintro e w5 ⟨rfl, hb5⟩
  have HV5 := hid_of (HV3.out.below hb5)
  have HB5 := hid_of (bt HB3.out hb5)
  have HN5 := hid_of ((hb5.block _ (Array.getElem?_eq_some_iff.1 HN3.out).1).trans HN3.out)
  clear HV3 HB3 HN3 hb5 HPn y0 y1 y2 y3 y4 y5 y6 y7
  go_upto_region 4 with fail
  obtain ⟨y0, y1, y2, y3, y4, y5, y6, y7⟩ := eight HN5.out
  go_wp2_with fail
  refine Calls.mono (HTy.out _ _ HB5.out HV5.out) ?_
  rintro e w6 ⟨rfl, hb6⟩
  have HB6 := hid_of (bt HB5.out hb6)
  have HN6 := hid_of ((hb6.block _ (Array.getElem?_eq_some_iff.1 HN5.out).1).trans HN5.out)
  clear HV5 HB5 HN5 hb6 HTy y0 y1 y2 y3 y4 y5 y6 y7
  go_upto_region 5 with fail
  go_wp2_with fail
  refine Calls.mono (HNw.out _) ?_
  rintro e w7 ⟨rfl, hb7⟩
  have HB7 := hid_of (bt HB6.out hb7)
  have HN7 := hid_of ((hb7.block _ (Array.getElem?_eq_some_iff.1 HN6.out).1).trans HN6.out)
  clear HB6 HN6 hb7 HNw
  generalize w6.heap.size = gr at *
  go_upto_region 6 with fail
  go_wp2_with fail
  refine Calls.mono (HEv.out _ _ HB7.out) ?_
  rintro e w8 ⟨rfl, hb8⟩
  have hX := hb8.trans ((bel1 w8 (.cells #[.bool false, .bool false, .float .f64 4611686018427387904] 43)).mono hb8.size)
  have HB9 := hid_of (bt HB7.out hX)
  have hn9 := (hX.block _ (Array.getElem?_eq_some_iff.1 HN7.out).1).trans HN7.out
  obtain ⟨⟨a0, a1, a2⟩, -⟩ := three (new_1 w8 (.cells #[.bool false, .bool false, .float .f64 4611686018427387904] 43))
  obtain ⟨y0, -⟩ := eight hn9
  clear HB7 HN7 hb8 hX hn9 HEv
  go_upto_region 9 with fail
  generalize w8.alloc (.cells #[.bool false, .bool false, .float .f64 4611686018427387904] 43) = W9 at *
  generalize w8.heap.size = ga at *
  go_wp2_with fail
  go_ret
  exact ⟨rfl, HB9.out⟩
end Go.Proofs.YtoaaijohmfaphaaGreatDoor.Ru
/- RULES: the law's of: a rule in memory of its own. Own work of the verifier. -/
namespace Go.Proofs.YtoaaijohmfaphaaGreatDoor.Ru
open Go.RowKit Me

mutual
def RVh (W : World) : RT → Value → Prop
  | .mk k x nm lb w n d ar, v => ∃ la lc ao b o cap, v = rx k x nm (.slice la lb.length lc) w n d (.slice ao ar.length cap) ∧ LbV 0 W (.slice la lb.length lc) lb ∧ (la = none → lc = 0) ∧ (ar ≠ [] → ao = some ⟨b, o, none⟩) ∧ ar.length ≤ cap ∧ cap ≤ 9223372036854775807 ∧ RVhs W b o ar
def RVhs (W : World) (b : Nat) : Nat → List RT → Prop
  | _, [] => True
  | o, t :: ar => (∃ u : Array Value, RVh W t (.agg u) ∧ u.size = 8 ∧ ∀ j (h : j < u.size), W.cell? ⟨b, o + j, none⟩ = some u[j]) ∧ RVhs W b (o + 8) ar
end
theorem RVhs.rv {W : World} {b : Nat} : ∀ (ar : List RT) (o : Nat), (∀ a ∈ ar, ∀ v, RVh W a v → RV 0 W a v) → RVhs W b o ar → RVs 0 W b o ar
  | [], _, _, _ => by unfold RVs; trivial
  | t :: ar, o, h, hs => by
    unfold RVhs at hs
    unfold RVs
    obtain ⟨⟨u, h1, h2, h3⟩, h4⟩ := hs
    exact ⟨⟨u, h t List.mem_cons_self _ h1, h2, h3⟩, RVhs.rv ar (o + 8) (fun a ha => h a (List.mem_cons_of_mem _ ha)) h4⟩
theorem RVh.rv {W : World} : ∀ (t : RT) (v : Value), RVh W t v → RV 0 W t v := by
  refine RT.ind ?_
  intro k x nm lb w n d ar ih v h
  unfold RVh at h
  unfold RV
  obtain ⟨la, lc, ao, b, o, cap, rfl, h1, -, h2, h3, h4, h5⟩ := h
  exact ⟨_, ao, b, o, cap, rfl, h1, fun e => ⟨h2 e, Nat.zero_le _⟩, h3, h4, RVhs.rv ar o (fun a ha v hv => ih a ha v hv) h5⟩
theorem RVhs.below {W W1 : World} {b : Nat} (hb : Below W.heap.size W W1) : ∀ (ar : List RT) (o : Nat), (∀ a ∈ ar, ∀ v, RVh W a v → RVh W1 a v) → RVhs W b o ar → RVhs W1 b o ar
  | [], _, _, _ => by unfold RVhs; trivial
  | t :: ar, o, h, hs => by
    unfold RVhs at hs ⊢
    obtain ⟨⟨u, h1, h2, h3⟩, h4⟩ := hs
    exact ⟨⟨u, h t List.mem_cons_self _ h1, h2, fun j hj => cellH' hb (h3 j hj)⟩, RVhs.below hb ar (o + 8) (fun a ha => h a (List.mem_cons_of_mem _ ha)) h4⟩
theorem RVh.below {W W1 : World} (hb : Below W.heap.size W W1) : ∀ (t : RT) (v : Value), RVh W t v → RVh W1 t v := by
  refine RT.ind ?_
  intro k x nm lb w n d ar ih v h
  unfold RVh at h ⊢
  obtain ⟨la, lc, ao, b, o, cap, rfl, h1, h0, h2, h3, h4, h5⟩ := h
  exact ⟨la, lc, ao, b, o, cap, rfl, h1.below hb, h0, h2, h3, h4, RVhs.below hb ar o (fun a ha v hv => ih a ha v hv) h5⟩
theorem RVhs.at_ {W : World} {b : Nat} : ∀ {ar : List RT} {o : Nat}, RVhs W b o ar → ∀ i (hi : i < ar.length), ∃ u : Array Value, RVh W ar[i] (.agg u) ∧ u.size = 8 ∧ ∀ j (h : j < u.size), W.cell? ⟨b, o + i * 8 + j, none⟩ = some u[j]
  | [], _, _, i, hi => by simp at hi
  | t :: ar, o, h, i, hi => by
    unfold RVhs at h
    obtain ⟨⟨u, h1, h2, h3⟩, h4⟩ := h
    cases i with
    | zero => exact ⟨u, h1, h2, fun j hj => by rw [Nat.zero_mul, Nat.add_zero]; exact h3 j hj⟩
    | succ i =>
      obtain ⟨u', k1, k2, k3⟩ := RVhs.at_ h4 i (by simpa using hi)
      exact ⟨u', k1, k2, fun j hj => by rw [show o + (i + 1) * 8 + j = o + 8 + i * 8 + j by omega]; exact k3 j hj⟩
theorem flL_one (L : List La.Lb) : ∀ u ∈ La.flL L, u.oneCell' = true := by
  induction L with
  | nil => intro u hu; cases hu
  | cons c L ih =>
    intro u hu
    simp only [La.flL, List.mem_cons] at hu
    rcases hu with rfl | rfl | h
    · rfl
    · rfl
    · exact ih u h
theorem rowL_cells {w : World} {b o : Nat} {L : List La.Lb} (h : La.RowL w b o L) (j : Nat) (u : Value) (hu : (La.flL L)[j]? = some u) : w.cell? ((⟨b, o, none⟩ : Addr).add j) = some u := by
  have hj : j < (La.flL L).length := by
    rcases Nat.lt_or_ge j (La.flL L).length with c | c
    · exact c
    · rw [List.getElem?_eq_none c] at hu; cases hu
  rw [La.flL_length] at hj
  have hi : j / 2 < L.length := by omega
  obtain ⟨g1, g2⟩ := La.flL_get L (j / 2) hi
  obtain ⟨h1, h2⟩ := h (j / 2) hi
  rw [Addr.add_lit]
  rcases Nat.mod_two_eq_zero_or_one j with e | e
  · rw [show j / 2 * 2 = j by omega] at g1 h1
    rw [g1] at hu
    cases hu
    exact h1
  · rw [show j / 2 * 2 + 1 = j by omega] at g2
    rw [show o + j / 2 * 2 + 1 = o + j by omega] at h2
    rw [g2] at hu
    cases hu
    exact h2
theorem infoRule : (Tryz.prog.info? 26).map (fun i => (i.zero, i.size, i.bytes)) = some (some (.agg (rc 0 0 [] (.slice none 0 0) 0 0 0 (.slice none 0 0))), 8, 104) := by kernel_rfl
theorem bel_gr {B g : Nat} {a b : World} (h : a.grownBy b (some g)) (hB : B ≤ g) (hs : B ≤ a.heap.size) : Below B a b := ⟨h.os, h.tape, h.output, h.size, fun k hk => h.block k (by omega) (by intro e; cases e; omega)⟩
theorem ex_gr {g : Nat} {a b : World} (h : a.grownBy b (some g)) : La.Ex g a b := ⟨h.os, h.tape, h.output, h.size, fun k hk hn => h.block k hk (by intro e; cases e; exact hn rfl)⟩
theorem bel_g0 {a b : World} (h : a.grownBy b none) : Below a.heap.size a b := ⟨h.os, h.tape, h.output, h.size, fun k hk => h.block k hk (by simp)⟩
structure OfI (w : World) (c : Array Value) (ln n ga : Nat) (ar : List RT) (i : Nat) (W : World) : Prop where
  b : Below w.heap.size w W
  g1 : W.heap[w.heap.size]? = some (.cells c 26)
  g2 : Z8 (w.heap.size + 1) W
  lr : W.ownsRow (w.heap.size + 2) 64 2 (.slice (some ⟨w.heap.size + 2, 0, none⟩) 0 (ln + 2)) 0 []
  ro : ∃ xs : List Value, xs.length = i * 8 ∧ W.ownsRow (w.heap.size + 2) 26 8 (.slice (some ⟨ga, 0, none⟩) i (n + 2)) i xs ∧ ∀ j (h : j < ar.length), j < i → ∃ u : Array Value, u.size = 8 ∧ (∀ q (k : q < u.size), xs[j * 8 + q]? = some u[q]) ∧ RV (ga + 1) W ar[j] (.agg u)
  gs : w.heap.size + 3 ≤ ga
  sz : ga + 1 ≤ W.heap.size
theorem OfI.below {w : World} {c : Array Value} {ln n ga : Nat} {ar : List RT} {i : Nat} {W W1 : World} (h : OfI w c ln n ga ar i W) (hb : Below W.heap.size W W1) : OfI w c ln n ga ar i W1 := by
  obtain ⟨xs, h1, h2, h3⟩ := h.ro
  exact ⟨bt h.b hb, (hb.block _ (Array.getElem?_eq_some_iff.1 h.g1).1).trans h.g1, h.g2.below hb, own_belG h.lr hb, ⟨xs, h1, own_belG h2 hb, fun j hj hi => by
    obtain ⟨u, k1, k2, k3⟩ := h3 j hj hi
    exact ⟨u, k1, k2, k3.below hb⟩⟩, h.gs, by have := h.sz; have := hb.size; omega⟩
theorem OfI.push {w : World} {c : Array Value} {ln n ga : Nat} {ar : List RT} {i : Nat} {W W1 : World} {xs : List Value} {u : Array Value} (h : OfI w c ln n ga ar i W) (hi : i < ar.length) (hx : xs.length = i * 8) (h0 : W.ownsRow (w.heap.size + 2) 26 8 (.slice (some ⟨ga, 0, none⟩) i (n + 2)) i xs)
    (h3 : ∀ j (h : j < ar.length), j < i → ∃ u : Array Value, u.size = 8 ∧ (∀ q (k : q < u.size), xs[j * 8 + q]? = some u[q]) ∧ RV (ga + 1) W ar[j] (.agg u))
    (hu : u.size = 8) (hv : RV (ga + 1) W ar[i] (.agg u)) (ho : W1.ownsRow (w.heap.size + 2) 26 8 (.slice (some ⟨ga, 0, none⟩) (i + 1) (n + 2)) (i + 1) (xs ++ u.toList)) (hg : W.grownBy W1 (some ga)) : OfI w c ln n ga ar (i + 1) W1 := by
  have hx8 := ex_gr hg
  have hgs := h.gs
  have h8 : u.toList.length = 8 := by rw [Array.length_toList, hu]
  have hxl : (xs ++ u.toList).length = (i + 1) * 8 := by rw [List.length_append, hx, h8]; omega
  refine ⟨h.b.trans (bel_gr hg (by omega) (by have := h.sz; omega)), (hg.block _ (Array.getElem?_eq_some_iff.1 h.g1).1 (by intro e; have := Option.some.inj e; omega)).trans h.g1, (hg.block _ h.g2.lt (by intro e; have := Option.some.inj e; omega)).trans h.g2, World.ownsRow.kept h.lr hg (own_apart h.lr h0 (by decide)), ⟨xs ++ u.toList, hxl, ho, fun j hj hji => ?_⟩, h.gs, by have := h.sz; have := hg.size; omega⟩
  by_cases e : j < i
  · obtain ⟨u', k1, k2, k3⟩ := h3 j hj e
    exact ⟨u', k1, fun q k => by rw [List.getElem?_append_left (by rw [hx]; omega)]; exact k2 q k, k3.ex hx8 (by omega)⟩
  · obtain rfl : j = i := by omega
    exact ⟨u, hu, fun q k => by
      rw [List.getElem?_append_right (by rw [hx]; omega), hx, show j * 8 + q - j * 8 = q by omega, Array.getElem?_toList]
      exact Array.getElem?_eq_getElem k, hv.ex hx8 (by omega)⟩
theorem rvs_of {B b : Nat} {W : World} : ∀ (ar : List RT) (o : Nat), (∀ j (h : j < ar.length), ∃ u : Array Value, u.size = 8 ∧ (∀ q (k : q < u.size), W.cell? ⟨b, o + j * 8 + q, none⟩ = some u[q]) ∧ RV B W ar[j] (.agg u)) → RVs B W b o ar
  | [], _, _ => by unfold RVs; trivial
  | t :: ar, o, h => by
    unfold RVs
    obtain ⟨u, h1, h2, h3⟩ := h 0 (by simp)
    refine ⟨⟨u, h3, h1, fun j hj => by have := h2 j hj; rw [Nat.zero_mul, Nat.add_zero] at this; exact this⟩, rvs_of ar (o + 8) fun j hj => ?_⟩
    obtain ⟨u', k1, k2, k3⟩ := h (j + 1) (by simpa using hj)
    exact ⟨u', k1, fun q k => by rw [show o + 8 + j * 8 + q = o + (j + 1) * 8 + q by omega]; exact k2 q k, k3⟩
theorem own_cellq {W : World} {B n cap g : Nat} {e : TypeId} {xs : List Value} {s : Nat} (h : W.ownsRow B e s (.slice (some ⟨g, 0, none⟩) n cap) n xs) (j : Nat) (u : Value) (hu : xs[j]? = some u) : W.cell? ⟨g, j, none⟩ = some u := by
  have hj : j < xs.length := by
    rcases Nat.lt_or_ge j xs.length with c | c
    · exact c
    · rw [List.getElem?_eq_none c] at hu; cases hu
  rcases h.2 with ⟨k, _⟩ | ⟨g', cap', cur, hv, hg, hh, h3, h4, h5, h6⟩
  · cases k
  · cases hv
    rw [← h6, List.getElem?_take] at hu
    split at hu
    · simp only [World.cell?, hh]
      rw [Array.getElem?_toList] at hu
      exact hu
    · cases hu
def OfQ (t : RT) (w : World) (e : Ending) (W : World) : Prop := ∃ v, e = .returned v ∧ RV w.heap.size W t v ∧ Below w.heap.size w W
def szO : RT → Prop
  | .mk _ _ _ lb _ _ _ ar => lb.length ≤ 32768 ∧ ar.length ≤ 32768
end Go.Proofs.YtoaaijohmfaphaaGreatDoor.Ru
/- RULES: the law's of: THE WALK. Own work of the verifier. -/
namespace Go.Proofs.YtoaaijohmfaphaaGreatDoor.Ru
open Go.RowKit Me

theorem of_end {w wr w8 : World} {c : Array Value} {ga : Nat} (k : Int) (x : Nat) (nm : List UInt8) (lb : List La.Lb) (wi n d : Int) (ar : List RT) (HI : OfI w c lb.length ar.length ga ar ar.length wr)
    (hown : La.OwnL (w.heap.size + 2) (.slice (some ⟨w.heap.size + 2, 0, none⟩) lb.length (lb.length + 2)) lb w8) (hgr : wr.grownBy w8 (some (w.heap.size + 2))) (ha : ar.length ≤ 32768) :
    OfQ (.mk k x nm lb wi n d ar) w (.returned (rx k x nm (.slice (some ⟨w.heap.size + 2, 0, none⟩) lb.length (lb.length + 2)) wi n d (.slice (some ⟨ga, 0, none⟩) ar.length (ar.length + 2)))) (put8 ((w8.setCell ⟨w.heap.size, 3, none⟩ (.slice (some ⟨w.heap.size + 2, 0, none⟩) lb.length (lb.length + 2))).setCell ⟨w.heap.size, 7, none⟩ (.slice (some ⟨ga, 0, none⟩) ar.length (ar.length + 2))) (w.heap.size + 1) (.int .i64 k) (.float .f64 x) (.string ⟨nm.toArray⟩) (.slice (some ⟨w.heap.size + 2, 0, none⟩) lb.length (lb.length + 2)) (.int .i64 wi) (.int .i64 n) (.int .i64 d) (.slice (some ⟨ga, 0, none⟩) ar.length (ar.length + 2))) ∧ (put8 ((w8.setCell ⟨w.heap.size, 3, none⟩ (.slice (some ⟨w.heap.size + 2, 0, none⟩) lb.length (lb.length + 2))).setCell ⟨w.heap.size, 7, none⟩ (.slice (some ⟨ga, 0, none⟩) ar.length (ar.length + 2))) (w.heap.size + 1) (.int .i64 k) (.float .f64 x) (.string ⟨nm.toArray⟩) (.slice (some ⟨w.heap.size + 2, 0, none⟩) lb.length (lb.length + 2)) (.int .i64 wi) (.int .i64 n) (.int .i64 d) (.slice (some ⟨ga, 0, none⟩) ar.length (ar.length + 2))).heap[w.heap.size + 1]? = some (.cells (rc k x nm (.slice (some ⟨w.heap.size + 2, 0, none⟩) lb.length (lb.length + 2)) wi n d (.slice (some ⟨ga, 0, none⟩) ar.length (ar.length + 2))) 26) := by
  obtain ⟨xs, hx, ho, hel⟩ := HI.ro
  have hgs := HI.gs
  have hsz := HI.sz
  have E1 := ex_gr hgr
  have E2 : La.Ex w.heap.size w8 ((w8.setCell ⟨w.heap.size, 3, none⟩ (.slice (some ⟨w.heap.size + 2, 0, none⟩) lb.length (lb.length + 2))).setCell ⟨w.heap.size, 7, none⟩ (.slice (some ⟨ga, 0, none⟩) ar.length (ar.length + 2))) := ((La.Ex.refl _ _).set _ _).set _ _
  have E3 : La.Ex (w.heap.size + 1) ((w8.setCell ⟨w.heap.size, 3, none⟩ (.slice (some ⟨w.heap.size + 2, 0, none⟩) lb.length (lb.length + 2))).setCell ⟨w.heap.size, 7, none⟩ (.slice (some ⟨ga, 0, none⟩) ar.length (ar.length + 2))) (put8 ((w8.setCell ⟨w.heap.size, 3, none⟩ (.slice (some ⟨w.heap.size + 2, 0, none⟩) lb.length (lb.length + 2))).setCell ⟨w.heap.size, 7, none⟩ (.slice (some ⟨ga, 0, none⟩) ar.length (ar.length + 2))) (w.heap.size + 1) (.int .i64 k) (.float .f64 x) (.string ⟨nm.toArray⟩) (.slice (some ⟨w.heap.size + 2, 0, none⟩) lb.length (lb.length + 2)) (.int .i64 wi) (.int .i64 n) (.int .i64 d) (.slice (some ⟨ga, 0, none⟩) ar.length (ar.length + 2))) := put8_one _ _ _ _ _ _ _ _ _ _
  have s1 := E1.size
  have s2 := E2.size
  have hz8 : ((w8.setCell ⟨w.heap.size, 3, none⟩ (.slice (some ⟨w.heap.size + 2, 0, none⟩) lb.length (lb.length + 2))).setCell ⟨w.heap.size, 7, none⟩ (.slice (some ⟨ga, 0, none⟩) ar.length (ar.length + 2))).heap[w.heap.size + 1]? = some (.cells (rc 0 0 [] (.slice none 0 0) 0 0 0 (.slice none 0 0)) 26) := (E2.block _ (by omega) (by omega)).trans ((E1.block _ (by omega) (by omega)).trans HI.g2)
  refine ⟨⟨_, rfl, ?_, ?_⟩, put8_heap hz8 _ _ _ _ _ _ _ _⟩
  · unfold RV
    refine ⟨_, some ⟨ga, 0, none⟩, ga, 0, ar.length + 2, rfl, (((LbV.of hown).ex E2 (by omega)).ex E3 (by omega)).mono (by omega), fun _ => ⟨rfl, by omega⟩, by omega, by omega, rvs_of ar 0 fun j hj => ?_⟩
    obtain ⟨u, k1, k2, k3⟩ := hel j hj hj
    refine ⟨u, k1, fun q hq => ?_, (((k3.ex E1 (by omega)).ex E2 (by omega)).ex E3 (by omega)).mono (by omega)⟩
    rw [Nat.zero_add]
    have hblk := (E3.block ga (by omega) (by omega)).trans ((E2.block ga (by omega) (by omega)).trans (E1.block ga (by omega) (by omega)))
    exact (World.cell?_of_block (w := wr) (a := ⟨ga, j * 8 + q, none⟩) hblk).trans (own_cellq ho _ _ (k2 q hq))
  · exact ((HI.b.trans (E1.below (by omega) (by omega))).trans (E2.below (Nat.le_refl _) (by omega))).trans (E3.below (by omega) (by omega))
set_option maxHeartbeats 8000000 in
set_option maxRecDepth 100000 in
theorem of_any : ∀ (t : RT) (v : Value) (w : World), RVh w t v → (∀ s ∈ nds t, szO s) →
    Calls Tryz.prog 6 #[v] w fun e w' => OfQ t w e w' := by
  refine RT.ind ?_
  intro k x nm lb wi n d ar ih v w hv hz
  obtain ⟨hl0, ha0⟩ := hz _ (nds_self _)
  have hch : ∀ i (hi : i < ar.length), ∀ s ∈ nds ar[i], szO s := fun i hi s hs => hz s (by
    unfold nds
    exact List.mem_cons_of_mem _ (ndsL_mem (List.getElem_mem hi) hs))
  unfold RVh at hv
  obtain ⟨la, lc, qa, ab, ao, qc, rfl, hlb, hnil, haa, hac, hac2, hrs⟩ := hv
  obtain ⟨W0, hW0⟩ : ∃ W0, W0 = (w.alloc (.cells (rc k x nm (.slice la lb.length lc) wi n d (.slice qa ar.length qc)) 26)).alloc (.cells (rc 0 0 [] (.slice none 0 0) 0 0 0 (.slice none 0 0)) 26) := ⟨_, rfl⟩
  have hb0 : Below w.heap.size w W0 := by rw [hW0]; exact La.bel2 w _ _
  have hn0 : W0.heap[w.heap.size]? = some (.cells (rc k x nm (.slice la lb.length lc) wi n d (.slice qa ar.length qc)) 26) := by rw [hW0]; exact heap_alloc2_old w _ _
  have hz0 : Z8 (w.heap.size + 1) W0 := by
    rw [hW0]
    have := new_1 (w.alloc (.cells (rc k x nm (.slice la lb.length lc) wi n d (.slice qa ar.length qc)) 26)) (.cells (rc 0 0 [] (.slice none 0 0) 0 0 0 (.slice none 0 0)) 26)
    rw [show (w.alloc (.cells (rc k x nm (.slice la lb.length lc) wi n d (.slice qa ar.length qc)) 26)).heap.size = w.heap.size + 1 by simp] at this
    exact this
  have hs0 : W0.heap.size = w.heap.size + 2 := by rw [hW0]; simp
  have HC : Hid (∀ i (hi : i < ar.length), ∃ c : Array Value, IsRc c ∧ (∀ W, Below w.heap.size w W → ∀ j (hj : j < c.size), W.cell? ⟨ab, ao + i * 8 + j, none⟩ = some c[j]) ∧ (∀ W, Below w.heap.size w W → Calls Tryz.prog 6 #[.agg c] W fun e w' => OfQ ar[i] W e w')) := fun i hi => by
    obtain ⟨c, h1, h2, h3⟩ := hrs.at_ i hi
    refine ⟨c, ?_, fun W hb j hj => cellH' hb (h3 j hj), fun W hb => ih ar[i] (List.getElem_mem hi) (.agg c) W (RVh.below hb _ _ h1) (hch i hi)⟩
    obtain ⟨k', x', nm', la', ln', lc', w', n', d', aa', an', ac', e⟩ := (RVh.rv _ _ h1).form
    exact ⟨k', x', nm', la', ln', lc', w', n', d', aa', an', ac', by cases e; rfl⟩
  have HW0 := hid_of hW0
  have HB0 := hid_of hb0
  have HN0 := hid_of hn0
  have HZ0 := hid_of hz0
  have HS0 := hid_of hs0
  have HLb := hid_of hlb
  have HNil := hid_of hnil
  have HA := hid_of haa
  have w1 : IntKind.i64.wrap ((lb.length : Int) + 2) = (lb.length : Int) + 2 := by rw [IntKind.wrap_i64]; omega
  have w2 : IntKind.i64.wrap ((ar.length : Int) + 2) = (ar.length : Int) + 2 := by rw [IntKind.wrap_i64]; omega
  have sF := store_f
  clear ih hz hch hlb hnil haa hac2 hrs hW0 hb0 hn0 hz0 hs0
  go_enter Tryz.func6, Tryz.ntmps6
  go_upto_region 1 with fail
  rw [← HW0.out]
  clear HW0
  go_cut [3] from 7 to 11 (fun z W => z = .slice (some ⟨w.heap.size + 2, 0, none⟩) 0 (lb.length + 2) ∧ Hid (Below W0.heap.size W0 W) ∧ Hid (W.ownsRow (w.heap.size + 2) 64 2 (.slice (some ⟨w.heap.size + 2, 0, none⟩) 0 (lb.length + 2)) 0 []))
  case first =>
    obtain ⟨y0, y1, y2, y3, y4, y5, y6, y7⟩ := eight HN0.out
    clear y0 y1 y2 y4 y5 y6 y7 HC HA
    obtain ⟨i0, hi0, hz0, hz1, hz2⟩ := info_parts La.infoLabel
    have hz0' := hid_of hz0
    have hz1' := hid_of hz1
    have hz2' := hid_of hz2
    clear hz0 hz1 hz2
    go_wp2_with (first
      | (refine wpList_make_own _ rfl _ _ 23 rfl (w.heap.size + 2) 64 i0 _ 2 Tryz.underlying23 hi0 hz0'.out hz1'.out .i64 .i64 _ (lb.length + 2) rfl rfl (by first | rfl | omega | simp) (by rw [hz2'.out]; omega) (by unfold maxLen; omega) (by rw [HS0.out]; omega) ?_; intro w3 hown hgr))
    go_meet
    exact ⟨by rw [HS0.out], bel_g0 hgr, by rw [HS0.out] at hown; exact hown⟩
  case rest =>
  obtain ⟨rfl, HB1, HO1⟩ := hcut
  have HN1 := hid_of ((HB1.out.block _ (Array.getElem?_eq_some_iff.1 HN0.out).1).trans HN0.out)
  have HZ1 := hid_of (HZ0.out.below HB1.out)
  have HBw1 := hid_of (bt HB0.out HB1.out)
  clear HB1 HN0 HZ0 HB0 w1
  go_upto_region 2 with fail
  have HS1 : Hid (w.heap.size + 3 ≤ wc.heap.size) := by
    have := (own_atG HO1.out)
    rcases this with h | ⟨g, h1, h2, h3⟩
    · cases h
    · cases h1; show _ ≤ _; omega
  obtain ⟨ga, hga⟩ : ∃ ga, ga = wc.heap.size := ⟨_, rfl⟩
  rw [← hga] at HS1
  have HGa := hid_of hga
  clear hga
  go_cut [4] from 12 to 16 (fun z W => z = .slice (some ⟨ga, 0, none⟩) 0 (ar.length + 2) ∧ Hid (OfI w (rc k x nm (.slice la lb.length lc) wi n d (.slice qa ar.length qc)) lb.length ar.length ga ar 0 W))
  case first =>
    obtain ⟨y0, y1, y2, y3, y4, y5, y6, y7⟩ := eight HN1.out
    clear y0 y1 y2 y3 y4 y5 y6 HC HA
    obtain ⟨i0, hi0, hz0, hz1, hz2⟩ := info_parts infoRule
    have hz0' := hid_of hz0
    have hz1' := hid_of hz1
    have hz2' := hid_of hz2
    clear hz0 hz1 hz2
    go_wp2_with (first
      | (refine wpList_make_own _ rfl _ _ 24 rfl (w.heap.size + 2) 26 i0 _ 8 Tryz.underlying24 hi0 hz0'.out hz1'.out .i64 .i64 _ (ar.length + 2) rfl rfl (by first | rfl | omega | simp) (by rw [hz2'.out]; omega) (by unfold maxLen; omega) (by have := HS1.out; have := HGa.out; omega) ?_; intro w3 hown hgr))
    go_meet
    have hsz : ga + 1 ≤ w3.heap.size := by
      rcases own_atG hown with h | ⟨g, h1, h2, h3⟩
      · cases h
      · cases h1
        have h3' : wc.heap.size < w3.heap.size := h3
        have := HGa.out
        omega
    refine ⟨by rw [HGa.out], bt HBw1.out (bel_g0 hgr), ((bel_g0 hgr).block _ (Array.getElem?_eq_some_iff.1 HN1.out).1).trans HN1.out, HZ1.out.below (bel_g0 hgr), own_belG HO1.out (bel_g0 hgr), ⟨[], rfl, by rw [← HGa.out] at hown; exact hown, fun j _ h => absurd h (by omega)⟩, HS1.out, hsz⟩
  case rest =>
  obtain ⟨rfl, HI0⟩ := hcut
  clear HN1 HZ1 HBw1 HO1 HGa HS1 w2 HS0
  go_upto_region 3 with fail
  obtain ⟨y0, y1, y2, y3, y4, y5, y6, y7⟩ := eight HI0.out.g1
  clear y0 y1 y2 y3 y4 y5 y6
  go_upto_region 4 with fail
  clear y7
  go_loopw [4, 20] (fun v a W => ∃ i : Nat, i ≤ ar.length ∧ v = .slice (some ⟨ga, 0, none⟩) i (ar.length + 2) ∧ a = .int .i64 (i : Int) ∧ Hid (OfI w (rc k x nm (.slice la lb.length lc) wi n d (.slice qa ar.length qc)) lb.length ar.length ga ar i W)) (fun _ a _ => ar.length - (intOf a).toNat)
  case atStart => exact ⟨0, by omega, rfl, rfl, HI0⟩
  case round =>
    clear HI0
    obtain ⟨i, hi, rfl, rfl, HI⟩ := hrel
    by_cases hlt : i < ar.length
    · have hlt' : (i : Int) < (ar.length : Int) := by omega
      obtain rfl := HA.out (by intro e; rw [e] at hlt; simp at hlt)
      obtain ⟨c, ⟨k', x', nm', la', ln', lc', w', n', d', aa', an', ac', rfl⟩, hcs, hcall⟩ := HC.out i hlt
      have hix := index_rl ab ao ar.length qc i (i : Int) rfl hlt
      obtain ⟨p1, hp1⟩ : ∃ p, p = ao + i * 8 := ⟨_, rfl⟩
      rw [← hp1] at hix hcs
      have cs := hcs wr HI.out.b
      have x0 := cs 0 (by show 0 < 8; decide)
      have x1 := cs 1 (by show 1 < 8; decide)
      have x2 := cs 2 (by show 2 < 8; decide)
      have x3 := cs 3 (by show 3 < 8; decide)
      have x4 := cs 4 (by show 4 < 8; decide)
      have x5 := cs 5 (by show 5 < 8; decide)
      have x6 := cs 6 (by show 6 < 8; decide)
      have x7 := cs 7 (by show 7 < 8; decide)
      try simp only [Nat.add_zero] at x0
      have hbA := bel1 wr (.cells (rc k' x' nm' (.slice la' ln' lc') w' n' d' (.slice aa' an' ac')) 26)
      have hnA := new_1 wr (.cells (rc k' x' nm' (.slice la' ln' lc') w' n' d' (.slice aa' an' ac')) 26)
      have HI5 := hid_of (HI.out.below hbA)
      have HN5 := hid_of hnA
      have D : La.HidC _ _ _ _ _ := hcall _ HI5.out.b
      have HSr : Hid (ga + 1 ≤ wr.heap.size) := HI.out.sz
      clear cs hcs hcall hp1 HC HA HLb HNil hbA hnA HI
      go_upto_region 6 with fail
      have HSz5 : Hid (ga + 1 ≤ (wr.alloc (.cells (rc k' x' nm' (.slice la' ln' lc') w' n' d' (.slice aa' an' ac')) 26)).heap.size) := HI5.out.sz
      generalize wr.alloc (.cells (rc k' x' nm' (.slice la' ln' lc') w' n' d' (.slice aa' an' ac')) 26) = W5 at *
      generalize wr.heap.size = gb at *
      clear x0 x1 x2 x3 x4 x5 x6 x7 hix
      obtain ⟨y0, y1, y2, y3, y4, y5, y6, y7⟩ := eight HN5.out
      go_wp2_with fail
      refine Calls.mono D.out ?_
      rintro e w6 ⟨v', rfl, hv', hb6⟩
      have HI6 := hid_of (HI5.out.below hb6)
      have hv6 := hv'.mono (B' := ga + 1) HSz5.out
      obtain ⟨k2, x2, nm2, la2, ln2, lc2, wi2, n2, d2, aa2, an2, ac2, rfl⟩ := hv6.form
      have hbB := bel1 w6 (.cells (rc k2 x2 nm2 (.slice la2 ln2 lc2) wi2 n2 d2 (.slice aa2 an2 ac2)) 26)
      have HI7 := hid_of (HI6.out.below hbB)
      have HV7 := hid_of (hv6.below hbB)
      have HN7 := hid_of (new_1 w6 (.cells (rc k2 x2 nm2 (.slice la2 ln2 lc2) wi2 n2 d2 (.slice aa2 an2 ac2)) 26))
      clear D hv' hb6 hv6 hbB HI5 HI6 HN5 HSz5 HSr y0 y1 y2 y3 y4 y5 y6 y7
      obtain ⟨xs, hx, ho, hel⟩ := HI7.out.ro
      have HX := hid_of hx
      have HO := hid_of ho
      have HEl := hid_of hel
      clear hx ho hel
      obtain ⟨i0, hi0, hz0, hz1, hz2⟩ := info_parts infoRule
      have hz1' := hid_of hz1
      clear hz0 hz1 hz2
      have hnw : ∀ (ad : Addr), some (⟨w6.heap.size, 0, none⟩ : Addr) = some ad → ∀ j u, ([.int .i64 k2, .float .f64 x2, .string ⟨nm2.toArray⟩, .slice la2 ln2 lc2, .int .i64 wi2, .int .i64 n2, .int .i64 d2, .slice aa2 an2 ac2] : List Value)[j]? = some u → (w6.alloc (.cells (rc k2 x2 nm2 (.slice la2 ln2 lc2) wi2 n2 d2 (.slice aa2 an2 ac2)) 26)).cell? (ad.add j) = some u := fun ad e j u hu => by
        cases e
        exact World.news_of_block HN7.out j u hu
      have HNw := hid_of hnw
      clear hnw
      go_wp2_with (first
        | (at_builtin; refine wpList_append_fits_any _ rfl _ _ 24 rfl (w.heap.size + 2) 26 i0 8 Tryz.underlying24 hi0 hz1'.out ga i (ar.length + 2) xs rfl HO.out (some ⟨w6.heap.size, 0, none⟩) 1 1 [.int .i64 k2, .float .f64 x2, .string ⟨nm2.toArray⟩, .slice la2 ln2 lc2, .int .i64 wi2, .int .i64 n2, .int .i64 d2, .slice aa2 an2 ac2] rfl rfl (fun e => by cases e) HNw.out (by simp [Value.oneCell']) (by omega) ?_; intro w8 hown hgr; have HI8 := hid_of (OfI.push HI7.out hlt HX.out HO.out HEl.out (u := rc k2 x2 nm2 (.slice la2 ln2 lc2) wi2 n2 d2 (.slice aa2 an2 ac2)) rfl HV7.out hown hgr); clear hown hgr HI7 HX HO HEl HV7 HN7))
      exact ⟨⟨i + 1, by omega, rfl, by go_num, HI8⟩, by simp [intOf]; omega⟩
    · obtain rfl : i = ar.length := by omega
      have hlt' : ¬ (ar.length : Int) < (ar.length : Int) := by omega
      obtain ⟨ao', b', o', cap', hveq, h1, h2, h3, h4⟩ := HLb.out.below HI.out.b
      cases hveq
      have hc : ∀ ad, la = some ad → ∀ j u, (La.flL lb)[j]? = some u → wr.cell? (ad.add j) = some u := fun ad e j u hu => by
        by_cases q : lb = []
        · subst q; simp [La.flL] at hu
        · have := (h1 q).1
          rw [e] at this
          cases this
          exact rowL_cells h4 j u hu
      have hn0 : la = none → lb.length = 0 ∧ lc = 0 := fun e => by
        refine ⟨?_, HNil.out e⟩
        by_cases q : lb = []
        · rw [q]; rfl
        · have := (h1 q).1
          rw [e] at this
          cases this
      have HCc := hid_of hc
      have HN0 := hid_of hn0
      have HFl := hid_of (flL_one lb)
      have HFn := hid_of (La.flL_length lb)
      obtain ⟨y0, y1, y2, y3, y4, y5, y6, y7⟩ := eight HI.out.g1
      obtain ⟨i0, hi0, hz0, hz1, hz2⟩ := info_parts La.infoLabel
      have hz1' := hid_of hz1
      have Hsz : Hid (w.heap.size + 3 ≤ wr.heap.size) := by have := HI.out.sz; have := HI.out.gs; show _ ≤ _; omega
      have HLr := hid_of HI.out.lr
      clear hz0 hz1 hz2 hc hn0 h1 h2 h3 h4 HC HA HLb HNil y0 y1 y2 y4 y5 y6 y7
      go_wp2_with (first
        | (at_builtin; refine wpList_append_fits_any _ rfl _ _ 23 rfl (w.heap.size + 2) 64 i0 2 Tryz.underlying23 hi0 hz1'.out (w.heap.size + 2) 0 (lb.length + 2) [] rfl HLr.out la lb.length lc (La.flL lb) rfl HFn.out HN0.out HCc.out HFl.out (by omega) ?_; intro w8 hown hgr; have g1' := (hgr.block w.heap.size (by have := Hsz.out; omega) (by intro e; have := Option.some.inj e; omega)).trans HI.out.g1; have g2' := (hgr.block (w.heap.size + 1) (by have := Hsz.out; omega) (by intro e; have := Option.some.inj e; omega)).trans HI.out.g2; clear y3; obtain ⟨y0, y1, y2, y3, y4, y5, y6, y7⟩ := eight g1'; have yf := eight_f g1'; obtain ⟨z0, z1, z2, z3, z4, z5, z6, z7⟩ := eight g2'; have zf := eight_f g2'; rw [Nat.zero_add, List.nil_append] at hown; have HE := of_end k x nm lb wi n d ar HI.out hown hgr ha0; have HE1 := hid_of HE.1; have HE2 := hid_of HE.2; clear HE hown hgr g1' g2' HI HLr HN0 HCc HFl HFn Hsz))
      obtain ⟨W9, hW9⟩ : ∃ W9, W9 = (put8 ((w8.setCell ⟨w.heap.size, 3, none⟩ (.slice (some ⟨w.heap.size + 2, 0, none⟩) lb.length (lb.length + 2))).setCell ⟨w.heap.size, 7, none⟩ (.slice (some ⟨ga, 0, none⟩) ar.length (ar.length + 2))) (w.heap.size + 1) (.int .i64 k) (.float .f64 x) (.string ⟨nm.toArray⟩) (.slice (some ⟨w.heap.size + 2, 0, none⟩) lb.length (lb.length + 2)) (.int .i64 wi) (.int .i64 n) (.int .i64 d) (.slice (some ⟨ga, 0, none⟩) ar.length (ar.length + 2))) := ⟨_, rfl⟩
      rw [← hW9] at HE1 HE2
      refine bodyPost_ret (results_cell_row (P := Tryz.prog) rfl _ _ (w.heap.size + 1) 26 _ (0, 0) _ rfl (by rw [hW9] at HE2; exact HE2.out) Tryz.underlying26 rfl (by kernel_rfl)) rfl ?_
      rw [hW9] at HE1
      exact HE1.out
end Go.Proofs.YtoaaijohmfaphaaGreatDoor.Ru
