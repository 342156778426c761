/- THE CODE'S series AND Parse. Own work of the verifier. -/
import Derived.Test.YtmphajfhilpgeabCB7
namespace Go.Proofs.Ytmphajfhilpgeab
open Go.RowKit

/-- The series of a text; or the first thing that is wrong, and where. -/
def parR (l : List UInt8) : Except (Int × Nat) (List UInt8 × List Lb) :=
  if nameB (l.take (rowN true l)) = false then .error (9, 0)
  else if rowN true l = l.length then .ok (l.take (rowN true l), [])
  else if preB (l.drop (rowN true l)) [123] = false then .error (5, rowN true l)
  else match labsF 17 l (rowN true l + 1) [] with
    | .error e => .error e
    | .ok (L, k) => if k = l.length then .ok (l.take (rowN true l), L) else .error (5, k)
/-- What series answers, and where the reader stands then. -/
def TellsS (l : List UInt8) (B : Nat) (e : Ending) (j : Nat) (W : World) : Prop :=
  (∃ z x v, parR l = .error (z, j) ∧ z ≠ 0 ∧ e = .returned (.tuple #[.string x, v, .int .i64 z])) ∨
  (∃ (n : List UInt8) (L : List Lb) (v : Value), parR l = .ok (n, L) ∧ e = .returned (.tuple #[.string ⟨n.toArray⟩, v, .int .i64 0]) ∧ OwnL B v L W)
theorem OwnL.below {B : Nat} {v : Value} {L : List Lb} {W W1 : World} (h : OwnL B v L W) (hb : Below W.heap.size W W1) : OwnL B v L W1 := by
  refine World.ownsRow.kept (row := none) h ⟨hb.os, hb.tape, hb.output, hb.size, fun k hk _ => hb.block k hk⟩ ?_
  cases hv : v.ownBlock <;> simp
theorem OwnL.mono {B B' : Nat} {v : Value} {L : List Lb} {W : World} (h : OwnL B v L W) (hB : B' ≤ B) : OwnL B' v L W := by
  refine ⟨h.1, ?_⟩
  rcases h.2 with h1 | ⟨g, cap, cur, hv, hg, r⟩
  · exact Or.inl h1
  · exact Or.inr ⟨g, cap, cur, hv, by omega, r⟩
theorem OwnL.nil (B : Nat) (W : World) : OwnL B (.slice none 0 0) [] W := ⟨rfl, Or.inl ⟨rfl, rfl⟩⟩
set_option maxHeartbeats 8000000 in
set_option maxRecDepth 100000 in
theorem cser_any (g : Nat) (l : List UInt8) (hl : l.length ≤ 140737488355328) (w : World) (hr : RdAt w g l 0) :
    Calls Try.prog 27 #[.pointer (some ⟨g, 0, none⟩)] w fun r w' => ∃ j, TellsS l w.heap.size r j w' ∧ Ex g w w' ∧ RdAt w' g l j := by
  obtain ⟨c0, c1, c2⟩ := hr.cells
  obtain ⟨n, hn⟩ : ∃ n, n = rowN true l := ⟨_, rfl⟩
  have hnl := rowN_le true l
  rw [← hn] at hnl
  obtain ⟨nm, hnm⟩ : ∃ nm, nm = l.take n := ⟨_, rfl⟩
  have hnml : nm.length = n := by rw [hnm, List.length_take]; omega
  have hnml' : (nm.length : Int) = (n : Int) := by omega
  have hP : parR l = if nameB nm = false then .error (9, 0)
    else if n = l.length then .ok (nm, [])
    else if preB (l.drop n) [123] = false then .error (5, n)
    else match labsF 17 l (n + 1) [] with
      | .error e => .error e
      | .ok (L, k) => if k = l.length then .ok (nm, L) else .error (5, k) := by
    unfold parR
    rw [← hn, ← hnm]
  have HW : Hid (∀ W, Calls Try.prog 50 #[.string ⟨l.toArray⟩, fv true] W fun r w' => r = .returned (.string ⟨nm.toArray⟩) ∧ w' = W) := fun W => by rw [hnm, hn]; exact crow_any l true (by omega) W
  have HN : Hid (∀ W, Calls Try.prog 20 #[.string ⟨nm.toArray⟩] W fun r w' => r = .returned (.bool (nameB nm)) ∧ w' = W) := fun W => cname_any nm (by omega) W
  have HCl : Hid (∀ W, Calls Try.prog 51 #[.string ⟨nm.toArray⟩] W fun r w' => r = .returned (.string ⟨nm.toArray⟩) ∧ Below W.heap.size W w') := fun W => clone_any nm (by omega) W
  have HR : Hid (∀ (j : Nat), j ≤ l.length → ∀ W, RdAt W g l j → Calls Try.prog 52 #[.pointer (some ⟨g, 0, none⟩)] W fun r w' => r = .returned (.string ⟨(l.drop j).toArray⟩) ∧ ∃ m, w' = W.drewN m) := fun j hj W h => rest_any g j l hj W h
  have HT : Hid (∀ W, RdAt W g l n → Calls Try.prog 53 #[.pointer (some ⟨g, 0, none⟩), .string ⟨#[123]⟩] W fun r w' => r = .returned (.bool (preB (l.drop n) [123])) ∧ Ex g W w' ∧ RdAt w' g l (if preB (l.drop n) [123] then n + 1 else n)) := fun W h => take_any g n l [123] hnl (by omega) W h
  have HL : Hid (∀ W, n + 1 ≤ l.length → RdAt W g l (n + 1) → Calls Try.prog 54 #[.pointer (some ⟨g, 0, none⟩)] W fun r w' => ∃ j, TellsLs l (n + 1) W.heap.size r j w' ∧ Ex g W w' ∧ RdAt w' g l j) := fun W h0 h => clabs_any g (n + 1) l h0 hl W h
  have HQ : preB (l.drop n) [123] = true → n + 1 ≤ l.length := fun h => by rw [pre_one, decide_eq_true_eq] at h; omega
  have HRd : Hid (RdAt w g l 0) := hr
  unfold fv at HW
  have hnb : (n : Int) ≤ 140737488355328 := by omega
  clear hr hn hnm hnml
  generalize nameB nm = nb at *
  cases nb
  · rw [if_pos rfl] at hP
    have HP : Hid _ := hP
    clear hP HCl HR HT HL HQ
    as_aux_lemma =>
      go_enter Try.func27, Try.ntmps27
      go_wp2_with (first | (go_at_call 50; refine (HW.out _).mono ?_; rintro e1 w1 ⟨rfl, rfl⟩) | (go_at_call 20; refine (HN.out _).mono ?_; rintro e1 w1 ⟨rfl, rfl⟩))
      go_ret3
      exact ⟨0, Or.inl ⟨9, _, _, HP.out, by decide, rfl⟩, Ex.refl _ _, HRd.out⟩
  rw [if_neg (by decide)] at hP
  have HPP : Hid _ := hP
  have HX0 : Hid (Ex g w (w.setCell ⟨g, 1, none⟩ (.int .i64 (n : Int)))) := (Ex.refl g w).set _ _
  have HR0 : Hid (RdAt (w.setCell ⟨g, 1, none⟩ (.int .i64 (n : Int))) g l n) := RdAt.set HRd.out n
  clear hP HRd
  go_enter Try.func27, Try.ntmps27
  go_wp2_with (first | (go_at_call 50; refine (HW.out _).mono ?_; rintro e1 w1 ⟨rfl, hw1⟩; subst w1) | (go_at_call 20; refine (HN.out _).mono ?_; rintro e1 w1 ⟨rfl, hw1⟩; subst w1))
  refine (HCl.out _).mono ?_
  rintro e w1 ⟨rfl, hb⟩
  have HX1 : Hid (Ex g w w1) := HX0.out.trans (Ex.of hb)
  have hr1 : RdAt w1 g l n := RdAt.below HR0.out hb
  have HC1 : HidC _ _ _ _ _ := HR.out n hnl w1 hr1
  have HR1 : Hid (RdAt w1 g l n) := hr1
  clear HW HN HCl HX0 HR0 hb hr1 c0 c1 c2
  go_wp2_with fail
  refine (HC1.out).mono ?_
  rintro e w2 ⟨rfl, m, rfl⟩
  have HX2 : Hid (Ex g w (w1.drewN m)) := HX1.out.trans (Ex.of (below_drewN w1 m))
  have HR2 : Hid (RdAt (w1.drewN m) g l n) := RdAt.drewN HR1.out m
  clear HC1 HX1 HR1
  generalize w1.drewN m = w2 at *
  by_cases g1 : n = l.length
  · have hd : (l.drop n == []) = true := by rw [List.drop_eq_nil_of_le (by omega)]; rfl
    have HF : Hid (parR l = .ok (nm, [])) := by show _ = _; rw [HPP.out, if_pos g1]
    generalize l.drop n = dr at *
    clear HPP HR HT HL HQ g1
    as_aux_lemma =>
      go_wp2_with fail
      go_ret3
      exact ⟨n, Or.inr ⟨nm, [], _, HF.out, rfl, OwnL.nil _ _⟩, HX2.out, HR2.out⟩
  have hd : (l.drop n == []) = false := by
    rw [beq_eq_false_iff_ne]
    intro e
    have := congrArg List.length e
    rw [List.length_drop] at this
    exact g1 (by simp at this; omega)
  have HP2 : Hid _ := HPP.out
  have hP := HPP.out
  rw [if_neg g1] at hP
  have HT1 : HidC _ _ _ _ _ := HT.out w2 HR2.out
  have HP3 : Hid _ := hP
  clear HPP HP2 hP HT HR2 g1
  generalize hbq : preB (l.drop n) [123] = bq at *
  obtain ⟨dr, hdr⟩ : ∃ dr, dr = l.drop n := ⟨_, rfl⟩
  rw [← hdr] at hd ⊢
  clear hdr hbq
  cases bq
  · have HF : Hid (parR l = .error (5, n)) := by have := HP3.out; rw [if_pos rfl] at this; exact this
    clear HP3 HL HQ HR
    as_aux_lemma =>
      go_wp2_with fail
      refine (HT1.out).mono ?_
      rintro e w3 ⟨rfl, hx, hrd⟩
      have HX3 : Hid (Ex g w w3) := HX2.out.trans hx
      have HR3 : Hid (RdAt w3 g l n) := hrd
      clear HT1 HX2 hx hrd
      go_wp2_with fail
      go_ret3
      exact ⟨n, Or.inl ⟨5, _, _, HF.out, by decide, rfl⟩, HX3.out, HR3.out⟩
  have hq := HQ rfl
  have hP4 := HP3.out
  rw [if_neg (by decide)] at hP4
  have HP4 : Hid _ := hP4
  clear HP3 HQ hP4
  go_wp2_with fail
  refine (HT1.out).mono ?_
  rintro e w3 ⟨rfl, hx, hrd⟩
  have HX3 : Hid (Ex g w w3) := HX2.out.trans hx
  have HL1 : HidC _ _ _ _ _ := HL.out w3 hq hrd
  clear HT1 HX2 hx hrd HL
  go_wp2_with fail
  refine (HL1.out).mono ?_
  rintro e w4 ⟨k, hT, hx, hrd⟩
  have HX4 : Hid (Ex g w w4) := HX3.out.trans hx
  have HR4 : Hid (RdAt w4 g l k) := hrd
  have hB : w.heap.size ≤ w3.heap.size := HX3.out.size
  clear HL1 HX3 hx hrd
  rcases hT with ⟨z, ho, hz, rfl⟩ | ⟨L, v, ho, hk, rfl, hown⟩
  · have HF : Hid (parR l = .error (z, k)) := by show _ = _; rw [HP4.out, ho]
    have hz' : (z == 0) = false := by simpa using hz
    have HZ : Hid _ := hz
    clear HP4 ho hz HR
    as_aux_lemma =>
      go_wp2_with fail
      go_ret3
      exact ⟨k, Or.inl ⟨z, _, _, HF.out, HZ.out, rfl⟩, HX4.out, HR4.out⟩
  · have HC4 : HidC _ _ _ _ _ := HR.out k hk w4 HR4.out
    have HO4 : Hid _ := hown.mono hB
    have hP := HP4.out
    rw [ho] at hP
    simp only at hP
    clear HR ho HP4 hown
    by_cases gk : k = l.length
    · have hd2 : (l.drop k).isEmpty = true := by rw [List.drop_eq_nil_of_le (by omega)]; rfl
      rw [if_pos gk] at hP
      have HF : Hid _ := hP
      generalize l.drop k = dk at *
      clear hP gk
      as_aux_lemma =>
        go_wp2_with fail
        refine (HC4.out).mono ?_
        rintro e w5 ⟨rfl, m2, rfl⟩
        have HX5 : Hid _ := HX4.out.trans (Ex.of (below_drewN w4 m2))
        have HR5 : Hid _ := RdAt.drewN HR4.out m2
        have HO5 : Hid _ := OwnL.below HO4.out (below_drewN w4 m2)
        clear HC4 HX4 HR4 HO4
        go_wp2_with fail
        go_ret3
        exact ⟨k, Or.inr ⟨nm, L, v, HF.out, rfl, HO5.out⟩, HX5.out, HR5.out⟩
    · have hd2 : (l.drop k).isEmpty = false := by
        rw [List.isEmpty_eq_false_iff]
        intro e
        have := congrArg List.length e
        rw [List.length_drop] at this
        exact gk (by simp at this; omega)
      rw [if_neg gk] at hP
      have HF : Hid _ := hP
      generalize l.drop k = dk at *
      clear hP gk HO4
      as_aux_lemma =>
        go_wp2_with fail
        refine (HC4.out).mono ?_
        rintro e w5 ⟨rfl, m2, rfl⟩
        have HX5 : Hid _ := HX4.out.trans (Ex.of (below_drewN w4 m2))
        have HR5 : Hid _ := RdAt.drewN HR4.out m2
        clear HC4 HX4 HR4
        go_wp2_with fail
        go_ret3
        exact ⟨k, Or.inl ⟨5, _, _, HF.out, by decide, rfl⟩, HX5.out, HR5.out⟩
theorem results_tmp4 {fn : Func} {t u v x : Tmp} (h : fn.results = #[.tmp t, .tmp u, .tmp v, .tmp x]) (tmps : Array Value) (P : Program) (w : World) :
    (results fn tmps).run P w = .ok (.tuple #[tmps.getD t undef, tmps.getD u undef, tmps.getD v undef, tmps.getD x undef]) w := by
  simp [results, h]
/-- What Parse answers. -/
def TellsC (l : List UInt8) (B : Nat) (e : Ending) (W : World) : Prop :=
  (∃ (z : Int) (k : Nat), parR l = .error (z, k) ∧ z ≠ 0 ∧ e = .returned (.tuple #[.string ⟨#[]⟩, .slice none 0 0, .int .i64 z, .int .i64 (k : Int)])) ∨
  (∃ (n : List UInt8) (L : List Lb) (v : Value), parR l = .ok (n, L) ∧ e = .returned (.tuple #[.string ⟨n.toArray⟩, v, .int .i64 0, .int .i64 0]) ∧ OwnL B v L W)
set_option maxHeartbeats 2000000 in
theorem cparse_any (l : List UInt8) (hl : l.length ≤ 140737488355328) (w : World) :
    Calls Try.prog 10 #[.string ⟨l.toArray⟩] w fun r w' => TellsC l w.heap.size r w' ∧ Below w.heap.size w w' := by
  have HRd : Hid (RdAt (w.alloc (.cells #[.string ⟨l.toArray⟩, .int .i64 0] 61)) w.heap.size l 0) := by show (w.heap.push _)[w.heap.size]? = _; simp
  have HS : HidC _ _ _ _ _ := cser_any w.heap.size l hl _ HRd.out
  clear HRd
  go_enter Try.func10, Try.ntmps10
  go_wp2_with fail
  refine (HS.out).mono ?_
  rintro e w1 ⟨j, hT, hx, hrd⟩
  have hbl : Below w.heap.size w w1 := (bel1 w _).trans (hx.below (Nat.le_refl _) (by simp))
  obtain ⟨c0, c1, c2⟩ := hrd.cells
  clear HS hx hrd
  rcases hT with ⟨z, x, v, ho, hz, rfl⟩ | ⟨n, L, v, ho, rfl, hown⟩
  · have hz' : (z != 0) = true := by simpa using hz
    have HO : Hid _ := ho
    have HZ : Hid _ := hz
    clear ho hz
    as_aux_lemma =>
      go_wp2_with fail
      go_quiet (fail)
      go_wp2_with fail
      (try simp only [Exit.inBlock, Exit.then]); refine bodyPost_ret (results_tmp4 rfl _ _ _) rfl ?_
      exact ⟨Or.inl ⟨z, j, HO.out, HZ.out, rfl⟩, bel_drewN hbl _⟩
  · have HO : Hid _ := ho
    have HW : Hid (OwnL w.heap.size v L w1) := hown.mono (by simp)
    clear ho hown
    as_aux_lemma =>
      go_wp2_with fail
      (try simp only [Exit.inBlock, Exit.then]); refine bodyPost_ret (results_tmp4 rfl _ _ _) rfl ?_
      exact ⟨Or.inr ⟨n, L, v, HO.out, rfl, HW.out⟩, hbl⟩
end Go.Proofs.Ytmphajfhilpgeab
