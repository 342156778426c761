/- DIFFERENCES of whole numbers of any length, the document's. Own work of the verifier. -/
import Derived.Test.YtdlaloakochfeaaB3
namespace Go.Proofs.Ytdlaloakochfeaa
open Go.RowKit Soft

set_option maxHeartbeats 4000000 in
theorem apart_ge (ao : Option Addr) (b o cap : Nat) (A : List Nat) (ao2 : Option Addr) (b2 o2 cap2 : Nat) (C : List Nat) (w : World) (h : RB w ao b o cap A) (k : RB w ao2 b2 o2 cap2 C) (hA : Trm A) (hC : Trm C) (hl : A.length ≤ 1000000000) (hl2 : C.length ≤ 1000000000) (hle : bv C ≤ bv A) :
    Calls Try.prog 22 #[.slice ao A.length cap, .slice ao2 C.length cap2] w fun e w' => ∃ v, e = .returned v ∧ Below w.heap.size w w' ∧ BigAt w' v (bv A - bv C) := by
  obtain ⟨i0, hi, hz0, hz1, hz2⟩ := info_parts infoP
  have HG := greater_rows ao2 b2 o2 cap2 C ao b o cap A w k h hC hA hl2 hl
  rw [decide_eq_false (by omega)] at HG
  have hll := len_le hC h.small (show bv C ≤ bv A by omega)
  go_enter Try.func22, Try.ntmps22
  go_wp2_with (go_at_call 26; with_reducible refine HG.mono ?_; rintro e w' ⟨rfl, m, rfl⟩)
  go_loopw [6, 7, 8] (fun v cr a wr => ∃ (i ow : Nat) (O : List Nat), cr = .int .i64 (ow : Int) ∧ a = .int .i64 (i : Int) ∧ ow ≤ 1 ∧ i ≤ A.length ∧ GB w.heap.size 44 pV (w.drewN m) v O wr ∧ Hid (O.length = i ∧ B32 O ∧ bv O + lowP C i = lowP A i + 4294967296 ^ i * ow)) (fun _ _ a _ => (A.length - (intOf a).toNat))
  case atStart => exact ⟨0, 0, [], rfl, rfl, by omega, by omega, GB.new (w.drewN m), ⟨rfl, (fun x hx => by cases hx), by simp [bv, lowP]⟩⟩
  case round =>
    obtain ⟨i, ow, O, rfl, rfl, how, hil, hG, hH⟩ := hrel
    have hx := pt_lt h.small i
    have hy := pt_lt k.small i
    have hB : Below w.heap.size w wr := (bdrew (Below.refl _ _) m : Below w.heap.size w (w.drewN m)).trans hG.below
    have hol : O.length = i := hH.out.1
    have HO : Hid (B32 O) := hH.out.2.1
    have hcase : ¬ i < A.length ∨ i < A.length := by omega
    rcases hcase with u1 | u1
    · obtain rfl : i = A.length := by omega
      have v1 : ¬ (A.length : Int) < (A.length : Int) := by omega
      have hsum := apart_end hol HO.out h.small (show bv C ≤ bv A by omega) hll how hH.out.2.2
      obtain ⟨g, cap3, rfl, hgB, hRB⟩ := hG.rowP HO.out
      have hT := trim_big _ g 0 cap3 O wr hRB
      rw [hol] at hT
      go_wp2_with (go_at_call 29; with_reducible refine hT.mono ?_; rintro e w' ⟨v', rfl, rfl, hbig⟩)
      go_ret
      rw [hsum] at hbig
      exact ⟨_, rfl, hB, hbig⟩
    obtain rfl := h.addr (by intro e; rw [e] at u1; simp at u1)
    have q1 : wr.cell? ⟨b, o + i, none⟩ = some (.int .u32 ((pt A i : Nat) : Int)) := by rw [pt_in u1]; exact (h.row.below hB (fun e => h.row.lt e)) i u1
    have v1 : (i : Int) < (A.length : Int) := by omega
    have hsub : (i < C.length ∧ (pt A i : Int) - (ow : Int) - (pt C i : Int) < 0) ∨ (i < C.length ∧ ¬ (pt A i : Int) - (ow : Int) - (pt C i : Int) < 0) ∨ (¬ i < C.length ∧ (pt A i : Int) - (ow : Int) - (pt C i : Int) < 0) ∨ (¬ i < C.length ∧ ¬ (pt A i : Int) - (ow : Int) - (pt C i : Int) < 0) := by omega
    rcases hsub with hu | hu | hu | hu
    · have u2 : i < C.length := hu.1
      obtain rfl := k.addr (by intro e; rw [e] at u2; simp at u2)
      have q2 : wr.cell? ⟨b2, o2 + i, none⟩ = some (.int .u32 ((pt C i : Nat) : Int)) := by rw [pt_in u2]; exact (k.row.below hB (fun e => k.row.lt e)) i u2
      have v2 : (i : Int) < (C.length : Int) := by omega
      have hneg := hu.2
      obtain ⟨r, hr⟩ : ∃ r : Nat, (r : Int) = (pt A i : Int) - (ow : Int) - (pt C i : Int) + 4294967296 := ⟨((pt A i : Int) - (ow : Int) - (pt C i : Int) + 4294967296).toNat, by omega⟩
      have HS : Hid _ := apart_step (part := r) (ow' := 1) hH.out.1 hH.out.2.2 (by omega) (by omega)
      have HR : Hid (r < 4294967296) := by unfold Hid; omega
      have s3 : IntKind.u32.wrap (r : Int) = (r : Int) := by rw [IntKind.wrap_u32']; have := HR.out; omega
      obtain ⟨D1, e1⟩ : ∃ D1 : Int, (pt A i : Int) - (ow : Int) = D1 := ⟨_, rfl⟩
      obtain ⟨D2, e2⟩ : ∃ D2 : Int, D1 - (pt C i : Int) = D2 := ⟨_, rfl⟩
      have e3 : D2 + 4294967296 = (r : Int) := by omega
      have e4 : D2 < 0 := by omega
      clear hr hneg hu
      have hb1 : -1 ≤ D1 ∧ D1 ≤ 4294967295 := by omega
      generalize pt A i = x at *
      generalize pt C i = y at *
      go_wp2_with (first | (at_builtin; refine wpList_append_own _ rfl _ _ 27 rfl w.heap.size 44 i0 (.int .u32 0) 1 4 Try.underlying27 hi hz0 hz1 hz2 rfl (by decide) _ _ _ rfl (hG.own.alloc _) ⟨_, 0, none⟩ 1 1 [_] rfl rfl (cell_one_new _ _ _) (by intro u hu; simp at hu; subst hu; rfl) (by unfold maxLen; omega) (by omega) (by have := hG.size; simp; omega) ?_; intro v' w7 hown hgrow hnil; have hG7 := hG.push (x := r) _ rfl hown hgrow hnil; clear hown hgrow hnil))
      exact ⟨⟨i + 1, 1, O ++ [r], rfl, by go_num, by omega, by omega, hG7, ⟨by rw [List.length_append, hol]; rfl, b32_snoc HO.out HR.out, HS.out⟩⟩, by simp [intOf]; omega⟩
    · have u2 : i < C.length := hu.1
      obtain rfl := k.addr (by intro e; rw [e] at u2; simp at u2)
      have q2 : wr.cell? ⟨b2, o2 + i, none⟩ = some (.int .u32 ((pt C i : Nat) : Int)) := by rw [pt_in u2]; exact (k.row.below hB (fun e => k.row.lt e)) i u2
      have v2 : (i : Int) < (C.length : Int) := by omega
      have hneg := hu.2
      obtain ⟨r, hr⟩ : ∃ r : Nat, (r : Int) = (pt A i : Int) - (ow : Int) - (pt C i : Int) := ⟨((pt A i : Int) - (ow : Int) - (pt C i : Int)).toNat, by omega⟩
      have HS : Hid _ := apart_step (part := r) (ow' := 0) hH.out.1 hH.out.2.2 (by omega) (by omega)
      have HR : Hid (r < 4294967296) := by unfold Hid; omega
      have s3 : IntKind.u32.wrap (r : Int) = (r : Int) := by rw [IntKind.wrap_u32']; have := HR.out; omega
      obtain ⟨D1, e1⟩ : ∃ D1 : Int, (pt A i : Int) - (ow : Int) = D1 := ⟨_, rfl⟩
      obtain ⟨D2, e2⟩ : ∃ D2 : Int, D1 - (pt C i : Int) = D2 := ⟨_, rfl⟩
      have e4 : ¬ D2 < 0 := by omega
      have e3 : D2 = (r : Int) := by omega
      rw [e3] at e2 e4
      clear e3
      clear hr hneg hu
      have hb1 : -1 ≤ D1 ∧ D1 ≤ 4294967295 := by omega
      generalize pt A i = x at *
      generalize pt C i = y at *
      go_wp2_with (first | (at_builtin; refine wpList_append_own _ rfl _ _ 27 rfl w.heap.size 44 i0 (.int .u32 0) 1 4 Try.underlying27 hi hz0 hz1 hz2 rfl (by decide) _ _ _ rfl (hG.own.alloc _) ⟨_, 0, none⟩ 1 1 [_] rfl rfl (cell_one_new _ _ _) (by intro u hu; simp at hu; subst hu; rfl) (by unfold maxLen; omega) (by omega) (by have := hG.size; simp; omega) ?_; intro v' w7 hown hgrow hnil; have hG7 := hG.push (x := r) _ rfl hown hgrow hnil; clear hown hgrow hnil))
      exact ⟨⟨i + 1, 0, O ++ [r], rfl, by go_num, by omega, by omega, hG7, ⟨by rw [List.length_append, hol]; rfl, b32_snoc HO.out HR.out, HS.out⟩⟩, by simp [intOf]; omega⟩
    · have u2 : ¬ i < C.length := hu.1
      have hy0 : pt C i = 0 := pt_out u2
      have v2 : ¬ (i : Int) < (C.length : Int) := by omega
      have hneg := hu.2
      obtain ⟨r, hr⟩ : ∃ r : Nat, (r : Int) = (pt A i : Int) - (ow : Int) - (pt C i : Int) + 4294967296 := ⟨((pt A i : Int) - (ow : Int) - (pt C i : Int) + 4294967296).toNat, by omega⟩
      have HS : Hid _ := apart_step (part := r) (ow' := 1) hH.out.1 hH.out.2.2 (by omega) (by omega)
      have HR : Hid (r < 4294967296) := by unfold Hid; omega
      have s3 : IntKind.u32.wrap (r : Int) = (r : Int) := by rw [IntKind.wrap_u32']; have := HR.out; omega
      obtain ⟨D1, e1⟩ : ∃ D1 : Int, (pt A i : Int) - (ow : Int) = D1 := ⟨_, rfl⟩
      have e3 : D1 + 4294967296 = (r : Int) := by omega
      have e4 : D1 < 0 := by omega
      clear hr hneg hu
      have hb1 : -1 ≤ D1 ∧ D1 ≤ 4294967295 := by omega
      generalize pt A i = x at *
      go_wp2_with (first | (at_builtin; refine wpList_append_own _ rfl _ _ 27 rfl w.heap.size 44 i0 (.int .u32 0) 1 4 Try.underlying27 hi hz0 hz1 hz2 rfl (by decide) _ _ _ rfl (hG.own.alloc _) ⟨_, 0, none⟩ 1 1 [_] rfl rfl (cell_one_new _ _ _) (by intro u hu; simp at hu; subst hu; rfl) (by unfold maxLen; omega) (by omega) (by have := hG.size; simp; omega) ?_; intro v' w7 hown hgrow hnil; have hG7 := hG.push (x := r) _ rfl hown hgrow hnil; clear hown hgrow hnil))
      exact ⟨⟨i + 1, 1, O ++ [r], rfl, by go_num, by omega, by omega, hG7, ⟨by rw [List.length_append, hol]; rfl, b32_snoc HO.out HR.out, HS.out⟩⟩, by simp [intOf]; omega⟩
    · have u2 : ¬ i < C.length := hu.1
      have hy0 : pt C i = 0 := pt_out u2
      have v2 : ¬ (i : Int) < (C.length : Int) := by omega
      have hneg := hu.2
      obtain ⟨r, hr⟩ : ∃ r : Nat, (r : Int) = (pt A i : Int) - (ow : Int) - (pt C i : Int) := ⟨((pt A i : Int) - (ow : Int) - (pt C i : Int)).toNat, by omega⟩
      have HS : Hid _ := apart_step (part := r) (ow' := 0) hH.out.1 hH.out.2.2 (by omega) (by omega)
      have HR : Hid (r < 4294967296) := by unfold Hid; omega
      have s3 : IntKind.u32.wrap (r : Int) = (r : Int) := by rw [IntKind.wrap_u32']; have := HR.out; omega
      obtain ⟨D1, e1⟩ : ∃ D1 : Int, (pt A i : Int) - (ow : Int) = D1 := ⟨_, rfl⟩
      have e4 : ¬ D1 < 0 := by omega
      have e3 : D1 = (r : Int) := by omega
      rw [e3] at e1 e4
      clear e3
      clear hr hneg hu
      generalize pt A i = x at *
      go_wp2_with (first | (at_builtin; refine wpList_append_own _ rfl _ _ 27 rfl w.heap.size 44 i0 (.int .u32 0) 1 4 Try.underlying27 hi hz0 hz1 hz2 rfl (by decide) _ _ _ rfl (hG.own.alloc _) ⟨_, 0, none⟩ 1 1 [_] rfl rfl (cell_one_new _ _ _) (by intro u hu; simp at hu; subst hu; rfl) (by unfold maxLen; omega) (by omega) (by have := hG.size; simp; omega) ?_; intro v' w7 hown hgrow hnil; have hG7 := hG.push (x := r) _ rfl hown hgrow hnil; clear hown hgrow hnil))
      exact ⟨⟨i + 1, 0, O ++ [r], rfl, by go_num, by omega, by omega, hG7, ⟨by rw [List.length_append, hol]; rfl, b32_snoc HO.out HR.out, HS.out⟩⟩, by simp [intOf]; omega⟩
set_option maxHeartbeats 4000000 in
theorem apart_lt (ao : Option Addr) (b o cap : Nat) (A : List Nat) (ao2 : Option Addr) (b2 o2 cap2 : Nat) (C : List Nat) (w : World) (h : RB w ao b o cap A) (k : RB w ao2 b2 o2 cap2 C) (hA : Trm A) (hC : Trm C) (hl : A.length ≤ 1000000000) (hl2 : C.length ≤ 1000000000) (hlt : bv C < bv A) :
    Calls Try.prog 22 #[.slice ao2 C.length cap2, .slice ao A.length cap] w fun e w' => ∃ v, e = .returned v ∧ Below w.heap.size w w' ∧ BigAt w' v (bv A - bv C) := by
  obtain ⟨i0, hi, hz0, hz1, hz2⟩ := info_parts infoP
  have HG := greater_rows ao b o cap A ao2 b2 o2 cap2 C w h k hA hC hl hl2
  rw [decide_eq_true hlt] at HG
  have hll := len_le hC h.small (show bv C ≤ bv A by omega)
  go_enter Try.func22, Try.ntmps22
  go_wp2_with (go_at_call 26; with_reducible refine HG.mono ?_; rintro e w' ⟨rfl, m, rfl⟩)
  go_loopw [6, 7, 8] (fun v cr a wr => ∃ (i ow : Nat) (O : List Nat), cr = .int .i64 (ow : Int) ∧ a = .int .i64 (i : Int) ∧ ow ≤ 1 ∧ i ≤ A.length ∧ GB w.heap.size 44 pV (w.drewN m) v O wr ∧ Hid (O.length = i ∧ B32 O ∧ bv O + lowP C i = lowP A i + 4294967296 ^ i * ow)) (fun _ _ a _ => (A.length - (intOf a).toNat))
  case atStart => exact ⟨0, 0, [], rfl, rfl, by omega, by omega, GB.new (w.drewN m), ⟨rfl, (fun x hx => by cases hx), by simp [bv, lowP]⟩⟩
  case round =>
    obtain ⟨i, ow, O, rfl, rfl, how, hil, hG, hH⟩ := hrel
    have hx := pt_lt h.small i
    have hy := pt_lt k.small i
    have hB : Below w.heap.size w wr := (bdrew (Below.refl _ _) m : Below w.heap.size w (w.drewN m)).trans hG.below
    have hol : O.length = i := hH.out.1
    have HO : Hid (B32 O) := hH.out.2.1
    have hcase : ¬ i < A.length ∨ i < A.length := by omega
    rcases hcase with u1 | u1
    · obtain rfl : i = A.length := by omega
      have v1 : ¬ (A.length : Int) < (A.length : Int) := by omega
      have hsum := apart_end hol HO.out h.small (show bv C ≤ bv A by omega) hll how hH.out.2.2
      obtain ⟨g, cap3, rfl, hgB, hRB⟩ := hG.rowP HO.out
      have hT := trim_big _ g 0 cap3 O wr hRB
      rw [hol] at hT
      go_wp2_with (go_at_call 29; with_reducible refine hT.mono ?_; rintro e w' ⟨v', rfl, rfl, hbig⟩)
      go_ret
      rw [hsum] at hbig
      exact ⟨_, rfl, hB, hbig⟩
    obtain rfl := h.addr (by intro e; rw [e] at u1; simp at u1)
    have q1 : wr.cell? ⟨b, o + i, none⟩ = some (.int .u32 ((pt A i : Nat) : Int)) := by rw [pt_in u1]; exact (h.row.below hB (fun e => h.row.lt e)) i u1
    have v1 : (i : Int) < (A.length : Int) := by omega
    have hsub : (i < C.length ∧ (pt A i : Int) - (ow : Int) - (pt C i : Int) < 0) ∨ (i < C.length ∧ ¬ (pt A i : Int) - (ow : Int) - (pt C i : Int) < 0) ∨ (¬ i < C.length ∧ (pt A i : Int) - (ow : Int) - (pt C i : Int) < 0) ∨ (¬ i < C.length ∧ ¬ (pt A i : Int) - (ow : Int) - (pt C i : Int) < 0) := by omega
    rcases hsub with hu | hu | hu | hu
    · have u2 : i < C.length := hu.1
      obtain rfl := k.addr (by intro e; rw [e] at u2; simp at u2)
      have q2 : wr.cell? ⟨b2, o2 + i, none⟩ = some (.int .u32 ((pt C i : Nat) : Int)) := by rw [pt_in u2]; exact (k.row.below hB (fun e => k.row.lt e)) i u2
      have v2 : (i : Int) < (C.length : Int) := by omega
      have hneg := hu.2
      obtain ⟨r, hr⟩ : ∃ r : Nat, (r : Int) = (pt A i : Int) - (ow : Int) - (pt C i : Int) + 4294967296 := ⟨((pt A i : Int) - (ow : Int) - (pt C i : Int) + 4294967296).toNat, by omega⟩
      have HS : Hid _ := apart_step (part := r) (ow' := 1) hH.out.1 hH.out.2.2 (by omega) (by omega)
      have HR : Hid (r < 4294967296) := by unfold Hid; omega
      have s3 : IntKind.u32.wrap (r : Int) = (r : Int) := by rw [IntKind.wrap_u32']; have := HR.out; omega
      obtain ⟨D1, e1⟩ : ∃ D1 : Int, (pt A i : Int) - (ow : Int) = D1 := ⟨_, rfl⟩
      obtain ⟨D2, e2⟩ : ∃ D2 : Int, D1 - (pt C i : Int) = D2 := ⟨_, rfl⟩
      have e3 : D2 + 4294967296 = (r : Int) := by omega
      have e4 : D2 < 0 := by omega
      clear hr hneg hu
      have hb1 : -1 ≤ D1 ∧ D1 ≤ 4294967295 := by omega
      generalize pt A i = x at *
      generalize pt C i = y at *
      go_wp2_with (first | (at_builtin; refine wpList_append_own _ rfl _ _ 27 rfl w.heap.size 44 i0 (.int .u32 0) 1 4 Try.underlying27 hi hz0 hz1 hz2 rfl (by decide) _ _ _ rfl (hG.own.alloc _) ⟨_, 0, none⟩ 1 1 [_] rfl rfl (cell_one_new _ _ _) (by intro u hu; simp at hu; subst hu; rfl) (by unfold maxLen; omega) (by omega) (by have := hG.size; simp; omega) ?_; intro v' w7 hown hgrow hnil; have hG7 := hG.push (x := r) _ rfl hown hgrow hnil; clear hown hgrow hnil))
      exact ⟨⟨i + 1, 1, O ++ [r], rfl, by go_num, by omega, by omega, hG7, ⟨by rw [List.length_append, hol]; rfl, b32_snoc HO.out HR.out, HS.out⟩⟩, by simp [intOf]; omega⟩
    · have u2 : i < C.length := hu.1
      obtain rfl := k.addr (by intro e; rw [e] at u2; simp at u2)
      have q2 : wr.cell? ⟨b2, o2 + i, none⟩ = some (.int .u32 ((pt C i : Nat) : Int)) := by rw [pt_in u2]; exact (k.row.below hB (fun e => k.row.lt e)) i u2
      have v2 : (i : Int) < (C.length : Int) := by omega
      have hneg := hu.2
      obtain ⟨r, hr⟩ : ∃ r : Nat, (r : Int) = (pt A i : Int) - (ow : Int) - (pt C i : Int) := ⟨((pt A i : Int) - (ow : Int) - (pt C i : Int)).toNat, by omega⟩
      have HS : Hid _ := apart_step (part := r) (ow' := 0) hH.out.1 hH.out.2.2 (by omega) (by omega)
      have HR : Hid (r < 4294967296) := by unfold Hid; omega
      have s3 : IntKind.u32.wrap (r : Int) = (r : Int) := by rw [IntKind.wrap_u32']; have := HR.out; omega
      obtain ⟨D1, e1⟩ : ∃ D1 : Int, (pt A i : Int) - (ow : Int) = D1 := ⟨_, rfl⟩
      obtain ⟨D2, e2⟩ : ∃ D2 : Int, D1 - (pt C i : Int) = D2 := ⟨_, rfl⟩
      have e4 : ¬ D2 < 0 := by omega
      have e3 : D2 = (r : Int) := by omega
      rw [e3] at e2 e4
      clear e3
      clear hr hneg hu
      have hb1 : -1 ≤ D1 ∧ D1 ≤ 4294967295 := by omega
      generalize pt A i = x at *
      generalize pt C i = y at *
      go_wp2_with (first | (at_builtin; refine wpList_append_own _ rfl _ _ 27 rfl w.heap.size 44 i0 (.int .u32 0) 1 4 Try.underlying27 hi hz0 hz1 hz2 rfl (by decide) _ _ _ rfl (hG.own.alloc _) ⟨_, 0, none⟩ 1 1 [_] rfl rfl (cell_one_new _ _ _) (by intro u hu; simp at hu; subst hu; rfl) (by unfold maxLen; omega) (by omega) (by have := hG.size; simp; omega) ?_; intro v' w7 hown hgrow hnil; have hG7 := hG.push (x := r) _ rfl hown hgrow hnil; clear hown hgrow hnil))
      exact ⟨⟨i + 1, 0, O ++ [r], rfl, by go_num, by omega, by omega, hG7, ⟨by rw [List.length_append, hol]; rfl, b32_snoc HO.out HR.out, HS.out⟩⟩, by simp [intOf]; omega⟩
    · have u2 : ¬ i < C.length := hu.1
      have hy0 : pt C i = 0 := pt_out u2
      have v2 : ¬ (i : Int) < (C.length : Int) := by omega
      have hneg := hu.2
      obtain ⟨r, hr⟩ : ∃ r : Nat, (r : Int) = (pt A i : Int) - (ow : Int) - (pt C i : Int) + 4294967296 := ⟨((pt A i : Int) - (ow : Int) - (pt C i : Int) + 4294967296).toNat, by omega⟩
      have HS : Hid _ := apart_step (part := r) (ow' := 1) hH.out.1 hH.out.2.2 (by omega) (by omega)
      have HR : Hid (r < 4294967296) := by unfold Hid; omega
      have s3 : IntKind.u32.wrap (r : Int) = (r : Int) := by rw [IntKind.wrap_u32']; have := HR.out; omega
      obtain ⟨D1, e1⟩ : ∃ D1 : Int, (pt A i : Int) - (ow : Int) = D1 := ⟨_, rfl⟩
      have e3 : D1 + 4294967296 = (r : Int) := by omega
      have e4 : D1 < 0 := by omega
      clear hr hneg hu
      have hb1 : -1 ≤ D1 ∧ D1 ≤ 4294967295 := by omega
      generalize pt A i = x at *
      go_wp2_with (first | (at_builtin; refine wpList_append_own _ rfl _ _ 27 rfl w.heap.size 44 i0 (.int .u32 0) 1 4 Try.underlying27 hi hz0 hz1 hz2 rfl (by decide) _ _ _ rfl (hG.own.alloc _) ⟨_, 0, none⟩ 1 1 [_] rfl rfl (cell_one_new _ _ _) (by intro u hu; simp at hu; subst hu; rfl) (by unfold maxLen; omega) (by omega) (by have := hG.size; simp; omega) ?_; intro v' w7 hown hgrow hnil; have hG7 := hG.push (x := r) _ rfl hown hgrow hnil; clear hown hgrow hnil))
      exact ⟨⟨i + 1, 1, O ++ [r], rfl, by go_num, by omega, by omega, hG7, ⟨by rw [List.length_append, hol]; rfl, b32_snoc HO.out HR.out, HS.out⟩⟩, by simp [intOf]; omega⟩
    · have u2 : ¬ i < C.length := hu.1
      have hy0 : pt C i = 0 := pt_out u2
      have v2 : ¬ (i : Int) < (C.length : Int) := by omega
      have hneg := hu.2
      obtain ⟨r, hr⟩ : ∃ r : Nat, (r : Int) = (pt A i : Int) - (ow : Int) - (pt C i : Int) := ⟨((pt A i : Int) - (ow : Int) - (pt C i : Int)).toNat, by omega⟩
      have HS : Hid _ := apart_step (part := r) (ow' := 0) hH.out.1 hH.out.2.2 (by omega) (by omega)
      have HR : Hid (r < 4294967296) := by unfold Hid; omega
      have s3 : IntKind.u32.wrap (r : Int) = (r : Int) := by rw [IntKind.wrap_u32']; have := HR.out; omega
      obtain ⟨D1, e1⟩ : ∃ D1 : Int, (pt A i : Int) - (ow : Int) = D1 := ⟨_, rfl⟩
      have e4 : ¬ D1 < 0 := by omega
      have e3 : D1 = (r : Int) := by omega
      rw [e3] at e1 e4
      clear e3
      clear hr hneg hu
      generalize pt A i = x at *
      go_wp2_with (first | (at_builtin; refine wpList_append_own _ rfl _ _ 27 rfl w.heap.size 44 i0 (.int .u32 0) 1 4 Try.underlying27 hi hz0 hz1 hz2 rfl (by decide) _ _ _ rfl (hG.own.alloc _) ⟨_, 0, none⟩ 1 1 [_] rfl rfl (cell_one_new _ _ _) (by intro u hu; simp at hu; subst hu; rfl) (by unfold maxLen; omega) (by omega) (by have := hG.size; simp; omega) ?_; intro v' w7 hown hgrow hnil; have hG7 := hG.push (x := r) _ rfl hown hgrow hnil; clear hown hgrow hnil))
      exact ⟨⟨i + 1, 0, O ++ [r], rfl, by go_num, by omega, by omega, hG7, ⟨by rw [List.length_append, hol]; rfl, b32_snoc HO.out HR.out, HS.out⟩⟩, by simp [intOf]; omega⟩
end Go.Proofs.Ytdlaloakochfeaa
