/- A SLAB WITH ANY CONTENTS: the counter's Add. Own work of the verifier. -/
import Derived.Test.YtfnohbalkpponaaGreatDoorZAX
namespace Go.Proofs.YtfnohbalkpponaaGreatDoor
open Go.RowKit

set_option maxHeartbeats 1000000 in
theorem cadd_ok (c h g n cap : Nat) (b i : Nat) (lo hi x : Int) (hb : b < 2) (hi' : i < n) (hn : n ≤ 16) (hl : In64 lo) (hh : In64 hi) (hx : 0 ≤ x) (hx1 : x < 9223372036854775808) (w : World) (h0 : w.cell? ⟨c, b, none⟩ = some (.slice (some ⟨h, 0, none⟩) n cap)) (h1 : w.cell? ⟨h, i, none⟩ = some (slc 2 g)) (hr : RowW w g [lo, hi]) :
    Calls Tryz.prog 294 #[.pointer (some ⟨c, 0, none⟩), .pointer none, .int .i64 (b : Int), .int .i64 (i : Int), .int .i64 x] w fun e w' => e = .returned (.int .i64 0) ∧ Hid (RowW w' g (adW [lo, hi] x)) ∧ Hid (Mid g (g + 1) w w') := by
  have HR : Hid (∀ _ : Unit, Calls Tryz.prog 302 #[.pointer (some ⟨c, 0, none⟩), .int .i64 (b : Int), .int .i64 (i : Int), .bool true] w fun e w' => e = .returned (.tuple #[.slice (some ⟨g, 0, none⟩) 2 2, .int .i64 0]) ∧ w' = w) := fun _ => row_ok c h g n cap 2 b i hb hi' hn w h0 h1
  have HA : Hid (∀ _ : Unit, Calls Tryz.prog 303 #[.pointer none, .slice (some ⟨g, 0, none⟩) 2 2, .int .i64 x] w fun e w' => e = .returned (.tuple #[]) ∧ Hid (RowW w' g (adW [lo, hi] x)) ∧ Hid (Mid g (g + 1) w w')) := fun _ => addSum_any g 2 lo hi x [] w hr hl hh hx hx1
  have e1 : ¬ x < 0 := by omega
  clear hr h0 h1 hl hh
  go_enter Tryz.func294, Tryz.ntmps294
  go_wp2_with (first | (go_at_call 302; refine (HR.out ()).mono ?_; rintro e w1 ⟨rfl, rfl⟩) | (go_at_call 303; refine (HA.out ()).mono ?_; rintro e w1 ⟨rfl, HR1, HM1⟩))
  go_ret
  exact ⟨rfl, HR1, HM1⟩
theorem cadd_no (c : Nat) (b i x er : Int) (w : World) (hm : Hid (∀ _ : Unit, Calls Tryz.prog 302 #[.pointer (some ⟨c, 0, none⟩), .int .i64 b, .int .i64 i, .bool (decide (0 ≤ x))] w fun e w' => e = .returned (.tuple #[.slice none 0 0, .int .i64 er]) ∧ w' = w)) (he : ¬ er = 0) :
    Calls Tryz.prog 294 #[.pointer (some ⟨c, 0, none⟩), .pointer none, .int .i64 b, .int .i64 i, .int .i64 x] w fun e w' => e = .returned (.int .i64 er) ∧ w' = w := by
  go_enter Tryz.func294, Tryz.ntmps294
  go_wp2_with (go_at_call 302; refine (hm.out ()).mono ?_; rintro e w1 ⟨rfl, rfl⟩)
  go_ret
  exact ⟨rfl, rfl⟩
/-- Add, where it is laid. -/
theorem sadd_ok (s c : Nat) (h : Nat → Nat) (G : Nat → List Nat) (C : Nat → Nat → List Int) (n : Nat) (w : World) (H : SlG 293 s c h G C 2 n w) (b i : Nat) (hb : b < 2) (hi : i < n) (hn : n ≤ 16) (lo hi' x : Int) (hC : C b i = [lo, hi']) (hl : In64 lo) (hh : In64 hi') (hx : 0 ≤ x) (hx1 : x < 9223372036854775808) :
    Calls Tryz.prog 91 #[.pointer (some ⟨s, 0, none⟩), .pointer none, .int .i64 (b : Int), .int .i64 (i : Int), .int .i64 x] w fun e w' => e = .returned (.int .i64 0) ∧ Hid (SlG 293 s c h G (upC C b i (adW [lo, hi'] x)) 2 n w') ∧ Hid (∃ g, g ∈ G 0 ++ G 1 ∧ Mid g (g + 1) w w') := by
  obtain ⟨cap, hc⟩ := H.held b hb
  have hil : i < (G b).length := by rw [H.len b hb]; exact hi
  have hr := H.left b hb i hil
  rw [hC] at hr
  have hs := H.slab
  have HA : Hid (∀ _ : Unit, _) := fun _ => cadd_ok c (h b) (G b)[i] n cap b i lo hi' x hb hi hn hl hh hx hx1 w hc (H.rows b hb i hil) hr
  have HQ : Hid (∀ w', RowW w' (G b)[i] (adW [lo, hi'] x) → Mid (G b)[i] ((G b)[i] + 1) w w' → SlG 293 s c h G (upC C b i (adW [lo, hi'] x)) 2 n w' ∧ ∃ g, g ∈ G 0 ++ G 1 ∧ Mid g (g + 1) w w') := fun w' h1 h2 => ⟨H.put hb hil (by rw [adW_len]; rfl) h1 h2, _, mem_of hb (List.getElem_mem hil), h2⟩
  clear H hr hc hC
  go_enter Tryz.func91, Tryz.ntmps91
  go_wp2_with (go_at_call 294; with_reducible refine Calls.mono (HA.out ()) ?_; rintro e w1 ⟨rfl, HR1, HM1⟩)
  go_ret
  exact ⟨rfl, (HQ.out _ HR1.out HM1.out).1, (HQ.out _ HR1.out HM1.out).2⟩
/-- Add, where it is refused. -/
theorem sadd_no (s c : Nat) (b i x er : Int) (w : World) (hs : w.cell? ⟨s, 0, none⟩ = some (.iface 293 (.pointer (some ⟨c, 0, none⟩)))) (HA : Hid (∀ _ : Unit, Calls Tryz.prog 294 #[.pointer (some ⟨c, 0, none⟩), .pointer none, .int .i64 b, .int .i64 i, .int .i64 x] w fun e w' => e = .returned (.int .i64 er) ∧ w' = w)) :
    Calls Tryz.prog 91 #[.pointer (some ⟨s, 0, none⟩), .pointer none, .int .i64 b, .int .i64 i, .int .i64 x] w fun e w' => e = .returned (.int .i64 er) ∧ w' = w := by
  go_enter Tryz.func91, Tryz.ntmps91
  go_wp2_with (go_at_call 294; with_reducible refine Calls.mono (HA.out ()) ?_; rintro e w1 ⟨rfl, rfl⟩)
  go_ret
  exact ⟨rfl, rfl⟩
theorem sadd_range (s c : Nat) (h : Nat → Nat) (G : Nat → List Nat) (C : Nat → Nat → List Int) (n : Nat) (w : World) (H : SlG 293 s c h G C 2 n w) (b i : Nat) (hb : b < 2) (hi : i < n) (hn : n ≤ 16) (x : Int) (hx : x < 0) :
    Calls Tryz.prog 91 #[.pointer (some ⟨s, 0, none⟩), .pointer none, .int .i64 (b : Int), .int .i64 (i : Int), .int .i64 x] w fun e w' => e = .returned (.int .i64 2) ∧ w' = w := by
  obtain ⟨cap, hc⟩ := H.held b hb
  refine sadd_no s c b i x 2 w H.slab (fun _ => cadd_no c b i x 2 w (fun _ => ?_) (by decide))
  rw [decide_eq_false (by omega : ¬ 0 ≤ x)]
  exact row_range c (h b) n cap b i hb hi hn w hc
theorem sadd_arg (s c : Nat) (h : Nat → Nat) (G : Nat → List Nat) (C : Nat → Nat → List Int) (n : Nat) (w : World) (H : SlG 293 s c h G C 2 n w) (b : Nat) (i : Int) (hb : b < 2) (hi : i < 0 ∨ (n : Int) ≤ i) (hn : n ≤ 16) (x : Int) :
    Calls Tryz.prog 91 #[.pointer (some ⟨s, 0, none⟩), .pointer none, .int .i64 (b : Int), .int .i64 i, .int .i64 x] w fun e w' => e = .returned (.int .i64 1) ∧ w' = w := by
  obtain ⟨cap, hc⟩ := H.held b hb
  exact sadd_no s c b i x 1 w H.slab (fun _ => cadd_no c b i x 1 w (fun _ => row_arg c (h b) n cap b i hb hi hn _ w hc) (by decide))
end Go.Proofs.YtfnohbalkpponaaGreatDoor
/- A SLAB WITH ANY CONTENTS: the counter's Drain. Own work of the verifier. -/
namespace Go.Proofs.YtfnohbalkpponaaGreatDoor
open Go.RowKit

/-- A sum's two words. -/
def cw (V : Int) : List Int := [wrap64 (loOf V), hiOf V]
theorem uw_wrap (x : Int) (h0 : 0 ≤ x) (h1 : x < 18446744073709551616) : IntKind.u64.wrap (wrap64 x) = x := by rw [IntKind.wrap_u64]; unfold wrap64; omega
theorem loOf_lt (V : Int) : 0 ≤ loOf V ∧ loOf V < 18446744073709551616 := by unfold loOf; omega
theorem cw_drains (pc : Value) (V : Int) (_hV : InR V) : Drains 295 pc (cw V) (hiOf V) (loOf V) [0, 0] := fun W g h => by
  have := cdrain_any pc g 2 (wrap64 (loOf V)) (hiOf V) [] W h
  rw [uw_wrap _ (loOf_lt V).1 (loOf_lt V).2] at this
  exact this
/-- The rows of a buffer, as Drain has them. -/
def rwG (G : List Nat) (X : Nat → List Int) (hi lo : Nat → Int) (ys : List Int) : List Rw := G.mapIdx fun i g => ⟨g, X i, hi i, lo i, ys⟩
theorem rwG_len (G : List Nat) (X : Nat → List Int) (hi lo : Nat → Int) (ys : List Int) : (rwG G X hi lo ys).length = G.length := by simp [rwG]
theorem rwG_g (G : List Nat) (X : Nat → List Int) (hi lo : Nat → Int) (ys : List Int) : (rwG G X hi lo ys).map (·.g) = G := by
  apply List.ext_getElem
  · simp [rwG]
  · intro i h1 h2; simp [rwG]
theorem rwG_get (G : List Nat) (X : Nat → List Int) (hi lo : Nat → Int) (ys : List Int) (i : Nat) (h : i < (rwG G X hi lo ys).length) : (rwG G X hi lo ys)[i] = ⟨G[i]'(by rw [rwG_len] at h; exact h), X i, hi i, lo i, ys⟩ := by simp [rwG]
theorem rwG_mem {G : List Nat} {X : Nat → List Int} {hi lo : Nat → Int} {ys : List Int} {r : Rw} (h : r ∈ rwG G X hi lo ys) : ∃ i, ∃ hi' : i < G.length, r = ⟨G[i], X i, hi i, lo i, ys⟩ := by
  obtain ⟨i, hi', rfl⟩ := List.getElem_of_mem h
  rw [rwG_len] at hi'
  exact ⟨i, hi', rwG_get _ _ _ _ _ i _⟩
theorem SlG.buf {T : TypeId} {s c : Nat} {h : Nat → Nat} {G : Nat → List Nat} {C : Nat → Nat → List Int} {wd n : Nat} {w : World} (H : SlG T s c h G C wd n w) (b : Nat) (hb : b < 2) (hi lo : Nat → Int) (ys : List Int) : Buf T s c b (h b) (rwG (G b) (C b) hi lo ys) w := by
  refine ⟨H.slab, ?_, fun i hi => ?_, ?_, ?_, ?_, ?_, ?_⟩
  · rw [rwG_len, H.len b hb]; exact H.held b hb
  · have hi2 : i < (G b).length := by rw [rwG_len] at hi; exact hi
    rw [rwG_get _ _ _ _ _ i hi]
    show w.cell? ⟨h b, i, none⟩ = some (Value.slice (some ⟨(G b)[i], 0, none⟩) (C b i).length (C b i).length)
    rw [H.wid b hb i (by rw [← H.len b hb]; exact hi2)]
    exact H.rows b hb i hi2
  · rw [rwG_g]
    rcases (show b = 0 ∨ b = 1 by omega) with rfl | rfl
    · exact (List.nodup_append.1 H.nd).1
    · exact (List.nodup_append.1 H.nd).2.1
  · rw [rwG_g]; exact fun k => H.s_ne (mem_of hb k)
  · rw [rwG_g]; exact fun k => H.c_ne (mem_of hb k)
  · rw [rwG_g]; exact fun k => H.h_ne b hb (mem_of hb k)
  · intro r hr
    obtain ⟨i, hi', rfl⟩ := rwG_mem hr
    exact H.left b hb i hi'
/-- All rows of a buffer hold others now. -/
def upB (C : Nat → Nat → List Int) (b : Nat) (Y : Nat → List Int) : Nat → Nat → List Int := fun b' i => if b' = b then Y i else C b' i
theorem upB_at (C : Nat → Nat → List Int) (b i : Nat) (Y : Nat → List Int) : upB C b Y b i = Y i := if_pos rfl
theorem upB_ne (C : Nat → Nat → List Int) (b b' i : Nat) (Y : Nat → List Int) (h : ¬ b' = b) : upB C b Y b' i = C b' i := if_neg h
theorem SlG.rowsNow {T : TypeId} {s c : Nat} {h : Nat → Nat} {G : Nat → List Nat} {C : Nat → Nat → List Int} {wd n : Nat} {w w' : World} (H : SlG T s c h G C wd n w) (b : Nat) (hb : b < 2) (Y : Nat → List Int) (hy : ∀ i, i < n → (Y i).length = wd) (ho : Off (G b) w w') (hd : ∀ i (hi : i < (G b).length), RowW w' (G b)[i] (Y i)) : SlG T s c h G (upB C b Y) wd n w' := by
  refine ⟨off_cell ho H.slab (fun k => H.s_ne (mem_of hb k)), fun j hj => ?_, fun j hj i hi => off_cell ho (H.rows j hj i hi) (fun k => H.h_ne j hj (mem_of hb k)), H.len, H.nd, H.s_ne, H.c_ne, H.h_ne, fun j hj i hi => ?_, fun j hj i hi => ?_⟩
  · obtain ⟨cap, hc⟩ := H.held j hj
    exact ⟨cap, off_cell ho hc (fun k => H.c_ne (mem_of hb k))⟩
  · by_cases e : j = b
    · subst e; rw [upB_at]; exact hd i hi
    · rw [upB_ne _ _ _ _ _ e]
      refine ho.row (H.left j hj i hi) (fun k => ?_)
      have hnd := List.nodup_append.1 H.nd
      rcases (show b = 0 ∨ b = 1 by omega) with rfl | rfl
      · obtain rfl : j = 1 := by omega
        exact hnd.2.2 _ k _ (List.getElem_mem hi) rfl
      · obtain rfl : j = 0 := by omega
        exact hnd.2.2 _ (List.getElem_mem hi) _ k rfl
  · by_cases e : j = b
    · subst e; rw [upB_at]; exact hy i hi
    · rw [upB_ne _ _ _ _ _ e]; exact H.wid j hj i hi
/-- Drain of a counter, whatever its stripes hold. -/
theorem drain_slab_c (s c : Nat) (h : Nat → Nat) (G : Nat → List Nat) (C : Nat → Nat → List Int) (n : Nat) (hn : n ≤ 16) (w : World) (H : SlG 293 s c h G C 2 n w) (b : Nat) (hb : b < 2) (V : Nat → Int) (hV : ∀ i, i < n → InR (V i)) (hC : ∀ i, i < n → C b i = cw (V i)) :
    Calls Tryz.prog 86 #[.pointer (some ⟨s, 0, none⟩), .pointer none, .int .i64 (b : Int)] w fun e w' => ∃ ao m cap t, e = .returned (.tuple #[.agg #[.int .i64 (hiOf t), .int .u64 (loOf t), .slice ao m cap, .int .u64 0, .complex .f64 0 0, .float .f64 0, .float .f64 0], .int .i64 0]) ∧ Hid (t = (List.range n).foldl (fun x i => rnd (x + V i)) 0) ∧ Hid (SN w' (.slice ao m cap) []) ∧ Hid (SlG 293 s c h G (upB C b (fun _ => [0, 0])) 2 n w') ∧ Hid (Off (G b) w w') := by
  have hlen := H.len b hb
  refine Calls.mono (drain_counter s c b (h b) hb (rwG (G b) (C b) (fun i => hiOf (V i)) (fun i => loOf (V i)) [0, 0]) w (H.buf b hb _ _ _) ?_ ?_) ?_
  · intro r hr
    obtain ⟨i, hi, rfl⟩ := rwG_mem hr
    have hi' : i < n := by omega
    refine ⟨?_, wf_of (hV i hi')⟩
    show Drains _ _ (C b i) _ _ _
    rw [hC i hi']
    exact cw_drains _ _ (hV i hi')
  · rw [rwG_len, hlen]; omega
  · rintro e w' ⟨v, rfl, hs, hw⟩
    obtain ⟨ao, m, cap, rfl⟩ := sn_form hs
    have ho : Off (G b) w w' := by have := hw.off; rwa [rwG_g] at this
    refine ⟨ao, m, cap, _, rfl, ?_, hs, H.rowsNow b hb _ (fun _ _ => rfl) ho (fun i hi => ?_), ho⟩
    · show sumR _ _ = _
      unfold sumR
      rw [List.take_length, rwG, ← hlen]
      have : ∀ (l : List Nat) (f : Nat → Int) (k : Nat) (x : Int), (l.mapIdx fun i g => (⟨g, C b (i + k), hiOf (V (i + k)), loOf (V (i + k)), [0, 0]⟩ : Rw)).foldl (fun t r => rnd (t + val r.hi r.lo)) x = (List.range' k l.length).foldl (fun x i => rnd (x + V i)) x := by
        intro l f
        induction l with
        | nil => intro k x; rfl
        | cons g l ih =>
          intro k x
          rw [List.mapIdx_cons, List.foldl_cons, List.length_cons, List.range'_succ, List.foldl_cons]
          have e1 := ih (k + 1) (rnd (x + V k))
          have e2 : (fun i (g : Nat) => (⟨g, C b (i + 1 + k), hiOf (V (i + 1 + k)), loOf (V (i + 1 + k)), [0, 0]⟩ : Rw)) = fun i g => ⟨g, C b (i + (k + 1)), hiOf (V (i + (k + 1))), loOf (V (i + (k + 1))), [0, 0]⟩ := by
            funext i g; rw [show i + 1 + k = i + (k + 1) by omega]
          rw [e2]
          show List.foldl _ (rnd (x + val (hiOf (V (0 + k))) (loOf (V (0 + k))))) _ = _
          rw [val_hl, Nat.zero_add]
          exact e1
      have := this (G b) V 0 0
      rw [← List.range_eq_range'] at this
      exact this
    · have hi' : i < (rwG (G b) (C b) (fun i => hiOf (V i)) (fun i => loOf (V i)) [0, 0]).length := by rw [rwG_len]; exact hi
      have := hw.done i hi' hi'
      rw [rwG_get _ _ _ _ _ i hi'] at this
      exact this
end Go.Proofs.YtfnohbalkpponaaGreatDoor
/- THE RECORDER: Add. Own work of the verifier. -/
namespace Go.Proofs.YtfnohbalkpponaaGreatDoor
open Go.RowKit

/-- What the closure reads. -/
abbrev Bx (kt kg kr kn s rc k : Nat) (st : Int) (cl : Bool) (n : Value) (W : World) : Prop := W.cell? ⟨kt, 0, none⟩ = some (.pointer (some ⟨s, 0, none⟩)) ∧ W.cell? ⟨kg, 0, none⟩ = some (.pointer none) ∧ W.cell? ⟨kr, 0, none⟩ = some (.pointer (some ⟨rc, 0, none⟩)) ∧ W.cell? ⟨kn, 0, none⟩ = some n ∧ W.cell? ⟨rc, 0, none⟩ = some (.pointer (some ⟨k, 0, none⟩)) ∧ W.cell? ⟨rc, 1, none⟩ = some (.int .i64 st) ∧ W.cell? ⟨rc, 2, none⟩ = some (.bool cl)
theorem add1_any (kt kg kr kn s rc k : Nat) (b st n er : Int) (cl : Bool) (W : World) (J : World → Prop) (hB : Bx kt kg kr kn s rc k st cl (.int .i64 n) W) (HJB : Hid (∀ w', J w' → Bx kt kg kr kn s rc k st cl (.int .i64 n) w'))
    (HA : Hid (∀ _ : Unit, Calls Tryz.prog 91 #[.pointer (some ⟨s, 0, none⟩), .pointer none, .int .i64 b, .int .i64 st, .int .i64 n] W.drew fun e w' => e = .returned (.int .i64 er) ∧ Hid (J w'))) :
    Calls Tryz.prog 90 #[.int .i64 b, .pointer (some ⟨kt, 0, none⟩), .pointer (some ⟨kg, 0, none⟩), .pointer (some ⟨kr, 0, none⟩), .pointer (some ⟨kn, 0, none⟩)] W fun e w' => e = .returned (.int .i64 er) ∧ Hid (J w') := by
  go_enter Tryz.func90, Tryz.ntmps90
  go_wp2_with fail
  go_region_held3 (fun V => Bx kt kg kr kn s rc k st cl (.int .i64 n) V) (first | with_reducible assumption | exact hB) ((go_at_call 91; with_reducible refine Calls.mono (HA.out ()) ?_; rintro e w3 ⟨rfl, HJ⟩; have hB3 := HJB.out _ HJ.out))
  all_goals
    go_wp2_with fail
    go_ret
    exact ⟨rfl, HJ⟩
/-- The boxes of a record. -/
def bxs (w : World) (rc s : Nat) (n : Value) (t : TypeId) : World := (((w.alloc (.cells #[.pointer (some ⟨rc, 0, none⟩)] 49)).alloc (.cells #[.pointer none] 122)).alloc (.cells #[.pointer (some ⟨s, 0, none⟩)] 85)).alloc (.cells #[n] t)
theorem bxs_cells (w : World) (rc s : Nat) (n : Value) (t : TypeId) : (bxs w rc s n t).cell? ⟨w.heap.size, 0, none⟩ = some (.pointer (some ⟨rc, 0, none⟩)) ∧ (bxs w rc s n t).cell? ⟨w.heap.size + 1, 0, none⟩ = some (.pointer none) ∧ (bxs w rc s n t).cell? ⟨w.heap.size + 2, 0, none⟩ = some (.pointer (some ⟨s, 0, none⟩)) ∧ (bxs w rc s n t).cell? ⟨w.heap.size + 3, 0, none⟩ = some n := by
  have one : ∀ (W : World) (b : Nat) (u : Value) (t : TypeId), W.heap[b]? = some (.cells #[u] t (0, 0)) → W.cell? ⟨b, 0, none⟩ = some u := fun W b u t h => by simp [World.cell?, h]
  refine ⟨one _ _ _ 49 ?_, one _ _ _ 122 ?_, one _ _ _ 85 ?_, one _ _ _ t ?_⟩ <;> (show ((((w.heap.push _).push _).push _).push _)[_]? = _; simp only [Array.getElem?_push, Array.size_push]; repeat (first | rw [if_pos trivial] | rw [if_pos (by omega)] | rw [if_neg (by omega)]))
theorem bxs_below (w : World) (rc s : Nat) (n : Value) (t : TypeId) : Below w.heap.size w (bxs w rc s n t) := by
  unfold bxs
  exact (((bel1 w _).alloc (by simp) _).alloc (by simp; omega) _).alloc (by simp; omega) _
theorem radd_any (rc s : Nat) (n er : Int) (w : World) (Q : World → Prop) (b : Bool) (hb : b = decide (0 ≤ n))
    (HR : Hid (∀ _ : Unit, Calls Tryz.prog 89 #[.pointer (some ⟨rc, 0, none⟩), .pointer none, .bool b, .func (.func 90) #[] #[.pointer (some ⟨w.heap.size + 2, 0, none⟩), .pointer (some ⟨w.heap.size + 1, 0, none⟩), .pointer (some ⟨w.heap.size, 0, none⟩), .pointer (some ⟨w.heap.size + 3, 0, none⟩)]] (bxs w rc s (.int .i64 n) 2) fun e w' => e = .returned (.int .i64 er) ∧ Hid (Q w'))) :
    Calls Tryz.prog 47 #[.pointer (some ⟨rc, 0, none⟩), .pointer none, .pointer (some ⟨s, 0, none⟩), .int .i64 n] w fun e w' => e = .returned (.int .i64 er) ∧ Hid (Q w') := by
  have hmf : ∀ (fn : Fn) (first cap : Array Value) (w : World), (Instr.makeFunc fn first cap).run Tryz.prog w = .ok (.func fn first cap) w := fun _ _ _ _ => rfl
  unfold bxs at HR
  subst hb
  go_enter Tryz.func47, Tryz.ntmps47
  go_wp2_with (go_at_call 89; with_reducible refine Calls.mono (HR.out ()) ?_; rintro e w3 ⟨rfl, HJ⟩)
  go_ret
  exact ⟨rfl, HJ⟩
end Go.Proofs.YtfnohbalkpponaaGreatDoor
/- MEMORY: all but some blocks stay. Own work of the verifier. -/
namespace Go.Proofs.YtfnohbalkpponaaGreatDoor
open Go.RowKit

/-- All but some blocks stay. -/
structure Chg (S : Nat → Prop) (W W' : World) : Prop where
  os : W'.os = W.os
  tape : W'.tape = W.tape
  output : W'.output = W.output
  size : W.heap.size ≤ W'.heap.size
  block : ∀ k, k < W.heap.size → ¬ S k → W'.heap[k]? = W.heap[k]?
theorem Chg.refl (S : Nat → Prop) (W : World) : Chg S W W := ⟨rfl, rfl, rfl, Nat.le_refl _, fun _ _ _ => rfl⟩
theorem Chg.trans {S S' : Nat → Prop} {a b c : World} (h : Chg S a b) (k : Chg S' b c) (hs : ∀ x, S' x → S x ∨ a.heap.size ≤ x) : Chg S a c :=
  ⟨k.os.trans h.os, k.tape.trans h.tape, k.output.trans h.output, Nat.le_trans h.size k.size, fun j hj hn => (k.block j (Nat.lt_of_lt_of_le hj h.size) (fun q => by rcases hs j q with r | r; exact hn r; omega)).trans (h.block j hj hn)⟩
theorem Chg.mono {S S' : Nat → Prop} {a b : World} (h : Chg S a b) (hs : ∀ x, S x → S' x) : Chg S' a b := ⟨h.os, h.tape, h.output, h.size, fun j hj hn => h.block j hj (fun q => hn (hs j q))⟩
theorem Chg.of_below {S : Nat → Prop} {a b : World} (h : Below a.heap.size a b) : Chg S a b := ⟨h.os, h.tape, h.output, h.size, fun k hk _ => h.block k hk⟩
theorem Chg.of_mid {S : Nat → Prop} {a b : World} {g : Nat} (h : Mid g (g + 1) a b) (hs : S g) : Chg S a b := ⟨h.os, h.tape, h.output, h.size, fun k hk hn => h.block k hk (fun q => hn (by rw [show k = g by omega]; exact hs))⟩
theorem Chg.at_ {S : Nat → Prop} {W W' : World} {p : Nat} {o : Obj} (k : Chg S W W') (h : W.heap[p]? = some o) (hS : ¬ S p) : W'.heap[p]? = some o := (k.block p (Array.getElem?_eq_some_iff.1 h).1 hS).trans h
theorem Chg.cell {S : Nat → Prop} {W W' : World} {a : Addr} {u : Value} (k : Chg S W W') (h : W.cell? a = some u) (hS : ¬ S a.block) : W'.cell? a = some u := (World.cell?_of_block (k.block a.block (lt_of_cell h) hS)).trans h
theorem Chg.below {S : Nat → Prop} {B : Nat} {a b : World} (k : Chg S a b) (hB : B ≤ a.heap.size) (hS : ∀ x, S x → B ≤ x) : Below B a b := ⟨k.os, k.tape, k.output, k.size, fun j hj => k.block j (by omega) (fun q => by have := hS j q; omega)⟩
theorem Chg.drew {S : Nat → Prop} {a b : World} (h : Chg S a b) : Chg S a b.drew := ⟨h.os, h.tape, h.output, h.size, h.block⟩
theorem Chg.undrew {S : Nat → Prop} {a b : World} (h : Chg S a.drew b) : Chg S a b := ⟨h.os, h.tape, h.output, h.size, h.block⟩
theorem Chg.set (W : World) (a : Addr) (u : Value) : Chg (fun x => x = a.block) W (W.setCell a u) := ⟨rfl, rfl, rfl, by simp, fun k _ hn => heap_setCell_other W a k u hn⟩
theorem Pq.lt {w : World} {p n : Nat} {neg : Bool} (h : Pq w p neg n) : p < w.heap.size := by
  cases neg with
  | false => obtain ⟨o, q⟩ := h; exact (Array.getElem?_eq_some_iff.1 q).1
  | true => obtain ⟨o, q⟩ := h; exact (Array.getElem?_eq_some_iff.1 q).1
theorem Pq.form {w : World} {p n : Nat} {neg : Bool} (h : Pq w p neg n) : ∃ s l0 l1, Ph w p s l0 l1 := by
  cases neg with
  | false => obtain ⟨o, q⟩ := h; exact ⟨_, _, _, q⟩
  | true => obtain ⟨o, q⟩ := h; exact ⟨_, _, _, q⟩
theorem Pq.below {w w' : World} {p n : Nat} {neg : Bool} (h : Pq w p neg n) (hb : Below w.heap.size w w') : Pq w' p neg n := by
  have hl := h.lt
  cases neg with
  | false => obtain ⟨o, q⟩ := h; exact ⟨o, (hb.block p hl).trans q⟩
  | true => obtain ⟨o, q⟩ := h; exact ⟨o, (hb.block p hl).trans q⟩
theorem sh_ne_pq {w : World} {k p a n : Nat} {neg : Bool} {r0 r1 : Int} (hS : Sh w k p a r0 r1) (hP : Pq w p neg n) : p ≠ k := by
  obtain ⟨_, _, _, h⟩ := hP.form
  exact sh_ne hS h
theorem rc_ne_ph {w : World} {rc k p n : Nat} {st : Int} {cl neg : Bool} (hR : Rc w rc k st cl) (hP : Pq w p neg n) : rc ≠ p := fun e => by
  obtain ⟨_, _, _, h⟩ := hP.form
  subst e
  unfold Rc at hR; unfold Ph at h
  rw [hR] at h
  injection h with h
  injection h with h
  injection h with h
  simp at h
end Go.Proofs.YtfnohbalkpponaaGreatDoor
/- THE RECORDER: a record, by what it leaves. Own work of the verifier. -/
namespace Go.Proofs.YtfnohbalkpponaaGreatDoor
open Go.RowKit

/-- What a count of refused records becomes. -/
def bmp (er : Int) (a b : Nat) (r : Int) : Int := if er = 0 then r else if a = b then wrap64 (r + 1) else r
theorem refd_Sh {w : World} {k p a : Nat} {r0 r1 ra er : Int} (h : Sh w k p a r0 r1) (ha : a < 2) (hra : ra = if a = 0 then r0 else r1) : Sh (refd w k a ra er) k p a (bmp er a 0 r0) (bmp er a 1 r1) := by
  unfold refd bmp
  by_cases he : er = 0
  · rw [if_pos he, if_pos he, if_pos he]; exact h
  · rw [if_neg he, if_neg he, if_neg he]
    rcases (show a = 0 ∨ a = 1 by omega) with rfl | rfl
    · rw [if_pos rfl] at hra; subst hra
      rw [if_pos rfl, if_neg (by decide)]
      exact h.set3 _
    · rw [if_neg (by decide)] at hra; subst hra
      rw [if_neg (by decide), if_pos rfl]
      exact h.set4 _
theorem refd_chg (w : World) (k a : Nat) (ra er : Int) : Chg (fun x => x = k) w (refd w k a ra er) := by
  unfold refd
  split
  · exact Chg.refl _ _
  · exact Chg.set w ⟨k, 3 + a, none⟩ _
theorem Chg.Sh {S : Nat → Prop} {w w' : World} (h : Chg S w w') {k p a : Nat} {r0 r1 : Int} (hs : Go.Proofs.YtfnohbalkpponaaGreatDoor.Sh w k p a r0 r1) (hk : ¬ S k) : Go.Proofs.YtfnohbalkpponaaGreatDoor.Sh w' k p a r0 r1 := h.at_ hs hk
theorem Chg.Ph {S : Nat → Prop} {w w' : World} (h : Chg S w w') {p : Nat} {s l0 l1 : Int} (hs : Go.Proofs.YtfnohbalkpponaaGreatDoor.Ph w p s l0 l1) (hk : ¬ S p) : Go.Proofs.YtfnohbalkpponaaGreatDoor.Ph w' p s l0 l1 := h.at_ hs hk
theorem Chg.Rc {S : Nat → Prop} {w w' : World} (h : Chg S w w') {rc k : Nat} {st : Int} {cl : Bool} (hs : Go.Proofs.YtfnohbalkpponaaGreatDoor.Rc w rc k st cl) (hk : ¬ S rc) : Go.Proofs.YtfnohbalkpponaaGreatDoor.Rc w' rc k st cl := h.at_ hs hk
theorem Chg.Pq {S : Nat → Prop} {w w' : World} (h : Chg S w w') {p n : Nat} {neg : Bool} (hs : Go.Proofs.YtfnohbalkpponaaGreatDoor.Pq w p neg n) (hk : ¬ S p) : Go.Proofs.YtfnohbalkpponaaGreatDoor.Pq w' p neg n := by
  cases neg with
  | false => obtain ⟨o, q⟩ := hs; exact ⟨o, h.Ph q hk⟩
  | true => obtain ⟨o, q⟩ := hs; exact ⟨o, h.Ph q hk⟩
/-- A record, whatever is laid: J holds behind it, and gs may change. -/
theorem record_any (rc k p a : Nat) (r0 r1 st er : Int) (neg : Bool) (m : Nat) (cl may : Bool) (lay : Value) (J : World → Prop) (gs : Nat → Prop) (w : World) (ha : a < 2) (hm : m < 4611686018427387904) (hr0 : In64 r0) (hr1 : In64 r1)
    (hR : Rc w rc k st cl) (hS : Sh w k p a r0 r1) (hP : Pq w p neg m) (hgs : ∀ x, gs x → x ≠ k ∧ x ≠ p) (hJ : ∀ W W', J W → Chg (fun x => x = k ∨ x = p) W W' → J W')
    (HL : ∀ W, Chg (fun x => x = p) w W → Calls Tryz.prog 140 #[.pointer (some ⟨rc, 0, none⟩), .int .i64 (a : Int), .bool may, lay] W fun e w' => e = .returned (.int .i64 er) ∧ J w' ∧ Chg gs W w') :
    Calls Tryz.prog 89 #[.pointer (some ⟨rc, 0, none⟩), .pointer none, .bool may, lay] w fun e w' => e = .returned (.int .i64 er) ∧ Sh w' k p a (bmp er a 0 r0) (bmp er a 1 r1) ∧ Pq w' p neg (m + 1) ∧ J w' ∧ Chg (fun x => gs x ∨ x = k ∨ x = p) w w' := by
  obtain ⟨ra, hra⟩ : ∃ ra, ra = if a = 0 then r0 else r1 := ⟨_, rfl⟩
  have hr : In64 ra := by rw [hra]; split; exact hr0; exact hr1
  cases neg with
  | false =>
    obtain ⟨o, hPh⟩ := hP
    have hkp := sh_ne hS hPh
    have hc1 : Chg (fun x => x = p) w (w.setCell ⟨p, 0, none⟩ (.int .i64 ((m : Int) + 1))) := Chg.set _ ⟨p, 0, none⟩ _
    refine Calls.mono (record_pos rc k p a r0 r1 ra m m o st er cl may lay (fun w' => J w' ∧ Chg gs (w.setCell ⟨p, 0, none⟩ (.int .i64 ((m : Int) + 1))) w') w ha (by omega) (by omega) ⟨by omega, by omega⟩ hra hr hR hS hPh (fun _ => ?_)) ?_
    · refine Calls.mono (HL _ hc1) ?_
      rintro e w' ⟨rfl, j1, j2⟩
      exact ⟨rfl, j2.Sh (hc1.Sh hS (fun e => hkp e.symm)) (fun q => (hgs _ q).1 rfl), j2.Ph (hPh.set0 _) (fun q => (hgs _ q).2 rfl), j1, j2⟩
    · rintro e w' ⟨rfl, w2, h1, h2, ⟨h3, h4⟩, rfl⟩
      have hc3 : Chg (fun x => x = k ∨ x = p) w2 ((refd w2 k a ra er).setCell ⟨p, 1, none⟩ (.int .i64 (wrap64 ((m : Int) + 1)))) := (((refd_chg w2 k a ra er).mono (fun x e => Or.inl e)).trans (Chg.set _ ⟨p, 1, none⟩ _) (fun x e => Or.inl (Or.inr e)))
      refine ⟨rfl, (Chg.set (refd w2 k a ra er) ⟨p, 1, none⟩ _).Sh (refd_Sh h1 ha hra) (fun e => hkp e.symm), ?_, hJ _ _ h3 hc3, ?_⟩
      · refine ⟨o, ?_⟩
        have := (refd_Ph (a := a) (ra := ra) (er := er) h2 hkp).set1 (wrap64 ((m : Int) + 1))
        rw [show wrap64 ((m : Int) + 1) = (m : Int) + 1 by unfold wrap64; omega] at this ⊢
        push_cast
        exact this
      · exact ((hc1.mono (fun x e => Or.inr (Or.inr e))).trans h4 (fun x e => Or.inl (Or.inl e))).trans hc3 (fun x e => Or.inl (Or.inr e))
  | true =>
    obtain ⟨o, hPh⟩ := hP
    have hkp := sh_ne hS hPh
    generalize hs : -9223372036854775808 + (m : Int) = s at hPh
    have hc1 : Chg (fun x => x = p) w (w.setCell ⟨p, 0, none⟩ (.int .i64 (s + 1))) := Chg.set _ ⟨p, 0, none⟩ _
    refine Calls.mono (record_neg rc k p a r0 r1 ra s o s st er cl may lay (fun w' => J w' ∧ Chg gs (w.setCell ⟨p, 0, none⟩ (.int .i64 (s + 1))) w') w ha (by omega) (by omega) ⟨by omega, by omega⟩ hra hr hR hS hPh (fun _ => ?_)) ?_
    · refine Calls.mono (HL _ hc1) ?_
      rintro e w' ⟨rfl, j1, j2⟩
      exact ⟨rfl, j2.Sh (hc1.Sh hS (fun e => hkp e.symm)) (fun q => (hgs _ q).1 rfl), j2.Ph (hPh.set0 _) (fun q => (hgs _ q).2 rfl), j1, j2⟩
    · rintro e w' ⟨rfl, w2, h1, h2, ⟨h3, h4⟩, rfl⟩
      have hc3 : Chg (fun x => x = k ∨ x = p) w2 ((refd w2 k a ra er).setCell ⟨p, 2, none⟩ (.int .i64 (wrap64 (s + 1)))) := (((refd_chg w2 k a ra er).mono (fun x e => Or.inl e)).trans (Chg.set _ ⟨p, 2, none⟩ _) (fun x e => Or.inl (Or.inr e)))
      refine ⟨rfl, (Chg.set (refd w2 k a ra er) ⟨p, 2, none⟩ _).Sh (refd_Sh h1 ha hra) (fun e => hkp e.symm), ?_, hJ _ _ h3 hc3, ?_⟩
      · refine ⟨o, ?_⟩
        have := (refd_Ph (a := a) (ra := ra) (er := er) h2 hkp).set2 (wrap64 (s + 1))
        rw [show wrap64 (s + 1) = s + 1 by unfold wrap64; omega] at this ⊢
        rw [show -9223372036854775808 + ((m + 1 : Nat) : Int) = s + 1 by omega]
        exact this
      · exact ((hc1.mono (fun x e => Or.inr (Or.inr e))).trans h4 (fun x e => Or.inl (Or.inl e))).trans hc3 (fun x e => Or.inl (Or.inr e))
/-- Add, of a recorder that is open. -/
theorem radd_open (rc k p a s : Nat) (r0 r1 st n er : Int) (neg : Bool) (m : Nat) (J : World → Prop) (gs : Nat → Prop) (w : World) (ha : a < 2) (hm : m < 4611686018427387904) (hr0 : In64 r0) (hr1 : In64 r1)
    (hR : Rc w rc k st false) (hS : Sh w k p a r0 r1) (hP : Pq w p neg m) (hgs : ∀ x, gs x → x ≠ k ∧ x ≠ p ∧ x ≠ rc ∧ x < w.heap.size) (hJ : ∀ W W', J W → Chg (fun x => x = k ∨ x = p) W W' → J W')
    (HA : ∀ W, Chg (fun x => x = p) w W → Calls Tryz.prog 91 #[.pointer (some ⟨s, 0, none⟩), .pointer none, .int .i64 (a : Int), .int .i64 st, .int .i64 n] W fun e w' => e = .returned (.int .i64 er) ∧ J w' ∧ Chg gs W w') :
    Calls Tryz.prog 47 #[.pointer (some ⟨rc, 0, none⟩), .pointer none, .pointer (some ⟨s, 0, none⟩), .int .i64 n] w fun e w' => e = .returned (.int .i64 (answ er (decide (0 ≤ n)))) ∧ Hid (Sh w' k p a (bmp (answ er (decide (0 ≤ n))) a 0 r0) (bmp (answ er (decide (0 ≤ n))) a 1 r1) ∧ Pq w' p neg (m + 1) ∧ J w' ∧ Chg (fun x => gs x ∨ x = k ∨ x = p) w w') := by
  have hb := bxs_below w rc s (.int .i64 n) 2
  have hcB : Chg (fun x => x = p) w (bxs w rc s (.int .i64 n) 2) := Chg.of_below hb
  have hpl : p < w.heap.size := Pq.lt hP
  have hrl : rc < w.heap.size := (Array.getElem?_eq_some_iff.1 hR).1
  refine radd_any rc s n _ w (fun w' => Sh w' k p a (bmp (answ er (decide (0 ≤ n))) a 0 r0) (bmp (answ er (decide (0 ≤ n))) a 1 r1) ∧ Pq w' p neg (m + 1) ∧ J w' ∧ Chg (fun x => gs x ∨ x = k ∨ x = p) w w') (decide (0 ≤ n)) rfl (fun _ => ?_)
  obtain ⟨q0, q1, q2, q3⟩ := bxs_cells w rc s (.int .i64 n) 2
  refine Calls.mono (record_any rc k p a r0 r1 st (answ er (decide (0 ≤ n))) neg m false _ _ J gs (bxs w rc s (.int .i64 n) 2) ha hm hr0 hr1 (hcB.Rc hR (fun e => rc_ne_ph hR hP e)) (hcB.Sh hS (fun e => sh_ne_pq hS hP e.symm)) (Pq.below hP hb) (fun x hx => ⟨(hgs x hx).1, (hgs x hx).2.1⟩) hJ (fun W hW => ?_)) ?_
  · have hRW : Rc W rc k st false := hW.Rc (hcB.Rc hR (fun e => rc_ne_ph hR hP e)) (fun e => rc_ne_ph hR hP e)
    have hbx : ∀ (V : World), Chg (fun x => gs x ∨ x = p) (bxs w rc s (.int .i64 n) 2) V → Bx (w.heap.size + 2) (w.heap.size + 1) w.heap.size (w.heap.size + 3) s rc k st false (.int .i64 n) V := fun V hV => by
      have kc : ∀ (j : Nat) (u : Value), (bxs w rc s (.int .i64 n) 2).cell? ⟨w.heap.size + j, 0, none⟩ = some u → V.cell? ⟨w.heap.size + j, 0, none⟩ = some u := fun j u hu =>
        (World.cell?_of_block (hV.block (w.heap.size + j) (lt_of_cell hu) (fun e => by
          rcases e with e | e
          · have := (hgs _ e).2.2.2; omega
          · omega))).trans hu
      have hRV : Rc V rc k st false := hV.Rc (hcB.Rc hR (fun e => rc_ne_ph hR hP e)) (fun e => by
        rcases e with e | e
        · exact (hgs _ e).2.2.1 rfl
        · exact rc_ne_ph hR hP e)
      exact ⟨kc 2 _ q2, kc 1 _ q1, kc 0 _ q0, kc 3 _ q3, hRV.cells.1, hRV.cells.2.1, hRV.cells.2.2⟩
    refine Calls.mono (laid_add rc k _ _ _ _ st (a : Int) er _ W hRW (fun w' => J w' ∧ Chg gs W w') (fun _ => ?_)) (fun e w' h => ⟨h.1, h.2.out.1, h.2.out.2⟩)
    have hW2 : Chg (fun x => gs x ∨ x = p) (bxs w rc s (.int .i64 n) 2) W := hW.mono (fun x e => Or.inr e)
    refine add1_any _ _ _ _ s rc k (a : Int) st n er false W (fun w' => J w' ∧ Chg gs W w') (hbx W hW2) (fun w' hj => hbx w' (hW2.trans hj.2 (fun x e => Or.inl (Or.inl e)))) (fun _ => ?_)
    refine Calls.mono (HA W.drew (hcB.trans (hW.drew) (fun x e => Or.inl e))) ?_
    rintro e w' ⟨rfl, j1, j2⟩
    exact ⟨rfl, j1, j2.undrew⟩
  · rintro e w' ⟨rfl, h1, h2, h3, h4⟩
    exact ⟨rfl, h1, h2, h3, (Chg.of_below hb).trans h4 (fun x e => Or.inl e)⟩
end Go.Proofs.YtfnohbalkpponaaGreatDoor
