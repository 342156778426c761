/- A SLAB WITH ANY CONTENTS: the counter's Drain. Own work of the verifier. -/
import Derived.Test.YtpllckgpolhafaaGreatDoorUC
namespace Go.Proofs.YtpllckgpolhafaaGreatDoor
open Go.RowKit

/-- A sum's two words. -/
def cw (V : Int) : List Int := [wrap64 (loOf V), hiOf V]
theorem cw_in {V : Int} (h : InR V) : In64 (wrap64 (loOf V)) ∧ In64 (hiOf V) := ⟨in_wrap _, (wf_of h).1, by have := (wf_of h).2; omega⟩
theorem uw_wrap (x : Int) (h0 : 0 ≤ x) (h1 : x < 18446744073709551616) : IntKind.u64.wrap (wrap64 x) = x := by rw [IntKind.wrap_u64]; unfold wrap64; omega
theorem loOf_lt (V : Int) : 0 ≤ loOf V ∧ loOf V < 18446744073709551616 := by unfold loOf; omega
theorem cw_add (V n : Int) (h0 : 0 ≤ V) (h1 : V + n < 170141183460469231731687303715884105728) (hn : 0 ≤ n) (hn1 : n < 9223372036854775808) : adW (cw V) n = cw (V + n) := by
  have hl := loOf_lt V
  have hu : uw (wrap64 (loOf V)) = loOf V := uw_wrap _ hl.1 hl.2
  simp only [cw, adW, hu]
  unfold wrap64 hiOf loOf at *
  split <;> simp <;> omega
theorem cw_zero : cw 0 = [0, 0] := by decide +kernel
theorem cw_drains (pc : Value) (V : Int) (_hV : InR V) : Drains 212 pc (cw V) (hiOf V) (loOf V) [0, 0] := fun W g h => by
  have := cdrain_any pc g 2 (wrap64 (loOf V)) (hiOf V) [] W h
  rw [uw_wrap _ (loOf_lt V).1 (loOf_lt V).2] at this
  exact this
/-- The rows of a buffer, as Drain has them. -/
def rwG (G : List Nat) (X : Nat → List Int) (hi lo : Nat → Int) (ys : List Int) : List Rw := G.mapIdx fun i g => ⟨g, X i, hi i, lo i, ys⟩
theorem rwG_len (G : List Nat) (X : Nat → List Int) (hi lo : Nat → Int) (ys : List Int) : (rwG G X hi lo ys).length = G.length := by simp [rwG]
theorem rwG_g (G : List Nat) (X : Nat → List Int) (hi lo : Nat → Int) (ys : List Int) : (rwG G X hi lo ys).map (·.g) = G := by
  apply List.ext_getElem
  · simp [rwG]
  · intro i h1 h2; simp [rwG]
theorem rwG_get (G : List Nat) (X : Nat → List Int) (hi lo : Nat → Int) (ys : List Int) (i : Nat) (h : i < (rwG G X hi lo ys).length) : (rwG G X hi lo ys)[i] = ⟨G[i]'(by rw [rwG_len] at h; exact h), X i, hi i, lo i, ys⟩ := by simp [rwG]
theorem rwG_mem {G : List Nat} {X : Nat → List Int} {hi lo : Nat → Int} {ys : List Int} {r : Rw} (h : r ∈ rwG G X hi lo ys) : ∃ i, ∃ hi' : i < G.length, r = ⟨G[i], X i, hi i, lo i, ys⟩ := by
  obtain ⟨i, hi', rfl⟩ := List.getElem_of_mem h
  rw [rwG_len] at hi'
  exact ⟨i, hi', rwG_get _ _ _ _ _ i _⟩
theorem SlG.buf {T : TypeId} {s c : Nat} {h : Nat → Nat} {G : Nat → List Nat} {C : Nat → Nat → List Int} {wd n : Nat} {w : World} (H : SlG T s c h G C wd n w) (b : Nat) (hb : b < 2) (hi lo : Nat → Int) (ys : List Int) : Buf T s c b (h b) (rwG (G b) (C b) hi lo ys) w := by
  refine ⟨H.slab, ?_, fun i hi => ?_, ?_, ?_, ?_, ?_, ?_⟩
  · rw [rwG_len, H.len b hb]; exact H.held b hb
  · have hi2 : i < (G b).length := by rw [rwG_len] at hi; exact hi
    rw [rwG_get _ _ _ _ _ i hi]
    show w.cell? ⟨h b, i, none⟩ = some (Value.slice (some ⟨(G b)[i], 0, none⟩) (C b i).length (C b i).length)
    rw [H.wid b hb i (by rw [← H.len b hb]; exact hi2)]
    exact H.rows b hb i hi2
  · rw [rwG_g]
    rcases (show b = 0 ∨ b = 1 by omega) with rfl | rfl
    · exact (List.nodup_append.1 H.nd).1
    · exact (List.nodup_append.1 H.nd).2.1
  · rw [rwG_g]; exact fun k => H.s_ne (mem_of hb k)
  · rw [rwG_g]; exact fun k => H.c_ne (mem_of hb k)
  · rw [rwG_g]; exact fun k => H.h_ne b hb (mem_of hb k)
  · intro r hr
    obtain ⟨i, hi', rfl⟩ := rwG_mem hr
    exact H.left b hb i hi'
/-- All rows of a buffer hold others now. -/
def upB (C : Nat → Nat → List Int) (b : Nat) (Y : Nat → List Int) : Nat → Nat → List Int := fun b' i => if b' = b then Y i else C b' i
theorem upB_at (C : Nat → Nat → List Int) (b i : Nat) (Y : Nat → List Int) : upB C b Y b i = Y i := if_pos rfl
theorem upB_ne (C : Nat → Nat → List Int) (b b' i : Nat) (Y : Nat → List Int) (h : ¬ b' = b) : upB C b Y b' i = C b' i := if_neg h
theorem SlG.rowsNow {T : TypeId} {s c : Nat} {h : Nat → Nat} {G : Nat → List Nat} {C : Nat → Nat → List Int} {wd n : Nat} {w w' : World} (H : SlG T s c h G C wd n w) (b : Nat) (hb : b < 2) (Y : Nat → List Int) (hy : ∀ i, i < n → (Y i).length = wd) (ho : Off (G b) w w') (hd : ∀ i (hi : i < (G b).length), RowW w' (G b)[i] (Y i)) : SlG T s c h G (upB C b Y) wd n w' := by
  refine ⟨off_cell ho H.slab (fun k => H.s_ne (mem_of hb k)), fun j hj => ?_, fun j hj i hi => off_cell ho (H.rows j hj i hi) (fun k => H.h_ne j hj (mem_of hb k)), H.len, H.nd, H.s_ne, H.c_ne, H.h_ne, fun j hj i hi => ?_, fun j hj i hi => ?_⟩
  · obtain ⟨cap, hc⟩ := H.held j hj
    exact ⟨cap, off_cell ho hc (fun k => H.c_ne (mem_of hb k))⟩
  · by_cases e : j = b
    · subst e; rw [upB_at]; exact hd i hi
    · rw [upB_ne _ _ _ _ _ e]
      refine ho.row (H.left j hj i hi) (fun k => ?_)
      have hnd := List.nodup_append.1 H.nd
      rcases (show b = 0 ∨ b = 1 by omega) with rfl | rfl
      · obtain rfl : j = 1 := by omega
        exact hnd.2.2 _ k _ (List.getElem_mem hi) rfl
      · obtain rfl : j = 0 := by omega
        exact hnd.2.2 _ (List.getElem_mem hi) _ k rfl
  · by_cases e : j = b
    · subst e; rw [upB_at]; exact hy i hi
    · rw [upB_ne _ _ _ _ _ e]; exact H.wid j hj i hi
/-- Drain of a counter, whatever its stripes hold. -/
theorem drain_slab_c (s c : Nat) (h : Nat → Nat) (G : Nat → List Nat) (C : Nat → Nat → List Int) (n : Nat) (hn : n ≤ 16) (w : World) (H : SlG 130 s c h G C 2 n w) (b : Nat) (hb : b < 2) (V : Nat → Int) (hV : ∀ i, i < n → InR (V i)) (hC : ∀ i, i < n → C b i = cw (V i)) :
    Calls Tryz.prog 16 #[.pointer (some ⟨s, 0, none⟩), .pointer none, .int .i64 (b : Int)] w fun e w' => ∃ ao m cap t, e = .returned (.tuple #[.agg #[.int .i64 (hiOf t), .int .u64 (loOf t), .slice ao m cap, .int .u64 0, .complex .f64 0 0, .float .f64 0, .float .f64 0], .int .i64 0]) ∧ Hid (t = (List.range n).foldl (fun x i => rnd (x + V i)) 0) ∧ Hid (SN w' (.slice ao m cap) []) ∧ Hid (SlG 130 s c h G (upB C b (fun _ => [0, 0])) 2 n w') ∧ Hid (Off (G b) w w') := by
  have hlen := H.len b hb
  refine Calls.mono (drain_counter s c b (h b) hb (rwG (G b) (C b) (fun i => hiOf (V i)) (fun i => loOf (V i)) [0, 0]) w (H.buf b hb _ _ _) ?_ ?_) ?_
  · intro r hr
    obtain ⟨i, hi, rfl⟩ := rwG_mem hr
    have hi' : i < n := by omega
    refine ⟨?_, wf_of (hV i hi')⟩
    show Drains _ _ (C b i) _ _ _
    rw [hC i hi']
    exact cw_drains _ _ (hV i hi')
  · rw [rwG_len, hlen]; omega
  · rintro e w' ⟨v, rfl, hs, hw⟩
    obtain ⟨ao, m, cap, rfl⟩ := sn_form hs
    have ho : Off (G b) w w' := by have := hw.off; rwa [rwG_g] at this
    refine ⟨ao, m, cap, _, rfl, ?_, hs, H.rowsNow b hb _ (fun _ _ => rfl) ho (fun i hi => ?_), ho⟩
    · show sumR _ _ = _
      unfold sumR
      rw [List.take_length, rwG, ← hlen]
      have : ∀ (l : List Nat) (f : Nat → Int) (k : Nat) (x : Int), (l.mapIdx fun i g => (⟨g, C b (i + k), hiOf (V (i + k)), loOf (V (i + k)), [0, 0]⟩ : Rw)).foldl (fun t r => rnd (t + val r.hi r.lo)) x = (List.range' k l.length).foldl (fun x i => rnd (x + V i)) x := by
        intro l f
        induction l with
        | nil => intro k x; rfl
        | cons g l ih =>
          intro k x
          rw [List.mapIdx_cons, List.foldl_cons, List.length_cons, List.range'_succ, List.foldl_cons]
          have e1 := ih (k + 1) (rnd (x + V k))
          have e2 : (fun i (g : Nat) => (⟨g, C b (i + 1 + k), hiOf (V (i + 1 + k)), loOf (V (i + 1 + k)), [0, 0]⟩ : Rw)) = fun i g => ⟨g, C b (i + (k + 1)), hiOf (V (i + (k + 1))), loOf (V (i + (k + 1))), [0, 0]⟩ := by
            funext i g; rw [show i + 1 + k = i + (k + 1) by omega]
          rw [e2]
          show List.foldl _ (rnd (x + val (hiOf (V (0 + k))) (loOf (V (0 + k))))) _ = _
          rw [val_hl, Nat.zero_add]
          exact e1
      have := this (G b) V 0 0
      rw [← List.range_eq_range'] at this
      exact this
    · have hi' : i < (rwG (G b) (C b) (fun i => hiOf (V i)) (fun i => loOf (V i)) [0, 0]).length := by rw [rwG_len]; exact hi
      have := hw.done i hi' hi'
      rw [rwG_get _ _ _ _ _ i hi'] at this
      exact this
end Go.Proofs.YtpllckgpolhafaaGreatDoor
