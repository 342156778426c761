/- Total, the code's. Own work of the verifier. -/
import Derived.Test.YtfnohbalkpponaaGreatDoorY2
import Derived.Test.YtfnohbalkpponaaGreatDoorZAH
namespace Go.Proofs.YtfnohbalkpponaaGreatDoor
open Go.RowKit Go.Shelf

attribute [local go_sem] Oper.semAt_some

set_option maxHeartbeats 1000000 in
theorem sums_in (m : Nat) (a : Option Addr) (len cap : Nat) (w : World) :
    CallsIn Fence.wide m Tryz.prog 239 #[.slice a len cap] w fun e w' => e = .returned (.func (.func 262) #[] #[.pointer (some ⟨w.heap.size, 0, none⟩)]) ∧ w' = w.alloc (.cells #[.slice a len cap] 71) := by
  refine callsIn_of_wp Tryz.func239 rfl trivial ?_ rfl
  simp only [Tryz.ntmps239, List.size_toArray, List.length_cons, List.length_nil, Nat.reduceAdd, Nat.reduceSub, Array.replicate_succ, Array.replicate_zero, List.push_toArray, List.append_toArray, List.nil_append, List.cons_append]
  gi_wp2
  go_ret
  exact ⟨rfl, rfl⟩
theorem bx_below {W W' : World} {b : Nat} {t : TypeId} {v : Value} {B : Nat} (h : Boxed W b t v) (hk : Below B W W') (hB : b < B) : Boxed W' b t v := (hk.block b hB).trans h
theorem tot_sN (L : List Cn) : tot L = sN L L.length % 18446744073709551616 := by unfold tot sN sumN; rw [List.take_length]

set_option maxRecDepth 100000 in
set_option maxHeartbeats 4000000 in
theorem total_any (w : World) (v : Value) (L : List Cn) (hS : SN w v L) (hW : Wc L) (hl : L.length ≤ 4194304) :
    Calls Tryz.prog 200 #[v] w fun e w' => e = .returned (.int .u64 (tot L : Nat)) ∧ Below w.heap.size w w' := by
  rw [tot_sN]
  obtain ⟨ao, b, o, cap, rfl, hao, hR⟩ := hS.sc
  refine (callsIn_wide (n := 5)).1 ?_
  have HSu : Hid (∀ W, _) := sums_in 4 ao L.length cap
  refine callsIn_of_wp_marks Tryz.func200 rfl trivial ?_ rfl
  simp only [Tryz.ntmps200, List.size_toArray, List.length_cons, List.length_nil, Nat.reduceAdd, Nat.reduceSub, Array.replicate_succ, Array.replicate_zero, List.push_toArray, List.append_toArray, List.nil_append, List.cons_append]
  gi_wp2_with (refine ⟨trivial, ?_⟩; gi_at_call 239; refine (HSu.out _).mono ?_; rintro e w' ⟨rfl, rfl⟩)
  have bT := (Boxed.new w 60 (.int .u64 0)).alloc (.cells #[.slice ao L.length cap] 71)
  have bS := Boxed.new (w.alloc (.cells #[.int .u64 0] 60)) 71 (.slice ao L.length cap)
  rw [World.size_alloc] at bS
  have hB0 : Below w.heap.size w ((w.alloc (.cells #[.int .u64 0] 60)).alloc (.cells #[.slice ao L.length cap] 71)) := ((Below.refl _ w).alloc (Nat.le_refl _) _).alloc (by simp) _
  have hsz : ((w.alloc (.cells #[.int .u64 0] 60)).alloc (.cells #[.slice ao L.length cap] 71)).heap.size = w.heap.size + 2 := by simp
  obtain ⟨W0, hW0⟩ : ∃ W0, (w.alloc (.cells #[.int .u64 0] 60)).alloc (.cells #[.slice ao L.length cap] 71) = W0 := ⟨_, rfl⟩
  rw [hW0] at bT bS hB0 hsz ⊢
  clear hW0
  have hRb : L ≠ [] → b < w.heap.size := fun h => hR.lt h
  refine wpIn_rangeFunc_seq (gf := 262) (lb := #[.pointer (some ⟨w.heap.size + 1, 0, none⟩)]) (n0 := w.heap.size) (B := w.heap.size + 1) (N := L.length) (encs := encS L) rfl (enters_of Tryz.func262 (by kernel_rfl) rfl) (by omega)
    (sums_seq (5 - 1) (w.heap.size + 1) w.heap.size (w.heap.size + 1) ao b o cap L hao hW hl W0 bS.cell (Nat.le_refl _) (hR.below hB0 hRb) hRb (by omega)) (fun _ => rfl)
    (fun i W => Boxed W w.heap.size 60 (.int .u64 ((sN L i % 18446744073709551616 : Nat) : Int)) ∧ Below w.heap.size w W) (fun _ _ _ => False)
    (fun i A A' h k => ⟨bx_below h.1 k (by omega), h.2.trans (k.mono (by omega))⟩) (fun _ _ _ _ h _ => h) ⟨bT, hB0⟩ ?round ?done ?stop
  case round =>
    rintro l i W hi hl1 hl2 ⟨hBx, hBel⟩
    unfold encS
    gi_wp2
    refine ⟨(Below.refl _ _).alloc (Nat.le_refl _) _, ?_⟩
    rintro W2 ⟨hBx2, hBel2⟩ hs2 hot
    have hnb := (hot W.heap.size (by omega)).trans (World.alloc_heap_new W _)
    have c1 := cell_1 hnb
    have d0 := hBx2.cell
    have d1 := hBx2.frozen
    gi_wp2
    exact ⟨(Mid.refl _ _ _).setCell (p := ⟨w.heap.size, 0, none⟩) (Or.inl ⟨Nat.le_refl _, Nat.lt_succ_self _⟩) _, hBx2.set _, hBel2.setCell (p := ⟨w.heap.size, 0, none⟩) (Nat.le_refl _) _⟩
  case done =>
    rintro D W hD ⟨hBx, hBel⟩ hK
    have d0 := hBx.cell
    gi_wp2
    refine ⟨by simp, .inl ⟨_, _, rfl, run_takeDeferred hK, ?_⟩⟩
    exact ⟨_, results_tmp rfl _ _ _, rfl, hBel.trans ((Below.refl _ _).grown (grownBy_putObj' _ _ _) (by have := hBel.size; omega) (fun k e => by cases e; omega))⟩
  case stop =>
    rintro D c i W _ _ h _
    exact h.elim
end Go.Proofs.YtfnohbalkpponaaGreatDoor
