/- PARTS: kept, where it holds. Own work of the verifier. -/
import Derived.Test.YtbgdmlekhobjdaaGreatV6
namespace Go.Proofs.YtbgdmlekhobjdaaGreat
open Go.RowKit

theorem row_fl {w : World} {g : Nat} {M : List Cn} (h : w.heap[g]? = some (.cells (fl M).toArray 45 (0, 0))) : RowC w g 0 M := fun i hi => by
  obtain ⟨g1, g2⟩ := fl_get M i hi
  have key : ∀ j u, (fl M)[j]? = some u → w.cell? ⟨g, 0 + j, none⟩ = some u := fun j u hu => by
    simp only [World.cell?, h]
    simp only [Option.isSome_none, Bool.false_eq_true, if_false, Nat.zero_add]
    rw [List.getElem?_toArray]; exact hu
  exact ⟨key _ _ g1, by have := key _ _ g2; rw [← Nat.add_assoc] at this; exact this⟩
theorem marks_of {w : World} {g : Nat} {L : List Cn} (h : RowC w g 0 (L ++ [(91, 0), (92, 0)])) : w.cell? ⟨g, L.length * 2, none⟩ = some (.int .i64 91) ∧ w.cell? ⟨g, (L.length + 1) * 2, none⟩ = some (.int .i64 92) := by
  have h0 := (h L.length (by simp)).1
  have h1 := (h (L.length + 1) (by simp)).1
  rw [Nat.zero_add] at h0 h1
  have e0 : (L ++ [((91 : Int), 0), ((92 : Int), 0)])[L.length]'(by simp) = (91, 0) := by simp
  have e1 : (L ++ [((91 : Int), 0), ((92 : Int), 0)])[L.length + 1]'(by simp) = (92, 0) := by simp
  rw [e0] at h0
  rw [e1] at h1
  exact ⟨h0, h1⟩
theorem row_head {w : World} {g : Nat} {L M : List Cn} (h : RowC w g 0 (L ++ M)) : RowC w g 0 L := by
  have := h.take L.length
  rwa [List.take_left'] at this
  rfl
theorem marks_kept {W W' : World} {g : Nat} {L : List Cn} (hb : Below W.heap.size W W') (h : RowC W g 0 (L ++ [(91, 0), (92, 0)])) : W'.cell? ⟨g, L.length * 2, none⟩ = some (.int .i64 91) ∧ W'.cell? ⟨g, (L.length + 1) * 2, none⟩ = some (.int .i64 92) := ⟨cell_kept hb (marks_of h).1, cell_kept hb (marks_of h).2⟩
abbrev KSt (k : Nat) (a1 : Option Addr) (m c1 : Nat) (w2 W : World) : Prop := W.cell? ⟨k, 2, none⟩ = some (.slice a1 m c1) ∧ Below w2.heap.size w2 W
theorem KSt.b {k : Nat} {a1 : Option Addr} {m c1 : Nat} {w2 W : World} (h : KSt k a1 m c1 w2 W) : Below w2.heap.size w2 W := h.2
theorem KSt.c {k : Nat} {a1 : Option Addr} {m c1 : Nat} {w2 W : World} (h : KSt k a1 m c1 w2 W) : W.cell? ⟨k, 2, none⟩ = some (.slice a1 m c1) := h.1
theorem KSt.kept {k : Nat} {a1 : Option Addr} {m c1 : Nat} {w2 W W' : World} (h : KSt k a1 m c1 w2 W) (hb : Below W.heap.size W W') : KSt k a1 m c1 w2 W' := ⟨cell_kept hb h.1, bt h.2 hb⟩
theorem marks_all {W W' : World} {g : Nat} {L : List Cn} (hb : Below W.heap.size W W') (h : Hid (RowC W g 0 (L ++ [(91, 0), (92, 0)]))) : W'.cell? ⟨g, L.length * 2, none⟩ = some (.int .i64 91) ∧ W'.cell? ⟨g, (L.length + 1) * 2, none⟩ = some (.int .i64 92) := marks_kept hb h.out
set_option maxRecDepth 10000 in
set_option maxHeartbeats 4000000 in
theorem kept_true (hi lo hi' lo' : Int) (a1 : Option Addr) (g c1 n s c mn mx n' u d mn' mx' : Nat) (L : List Cn) (hl : L.length ≤ 1048576) (w : World) (hr : RowC w g 0 (L ++ [(91, 0), (92, 0)])) (hA : SN w (.slice a1 L.length c1) L) :
    Calls Tryz.prog 12 #[part hi lo (.slice (some ⟨g, 0, none⟩) L.length (L.length + 2)) n s c mn mx, rpart hi' lo' (.slice a1 L.length c1) n' u d mn' mx'] w fun e w' => e = .returned (.bool true) ∧ Below w.heap.size w w' := by
  obtain ⟨w2, hw2⟩ : ∃ w2, (w.alloc (.cells #[.int .i64 hi, .int .u64 lo, .slice (some ⟨g, 0, none⟩) L.length (L.length + 2), .int .u64 (n : Int), .complex .f64 s c, .float .f64 mn, .float .f64 mx] 32)).alloc (.cells #[.int .i64 hi', .int .u64 lo', .slice a1 L.length c1, .int .u64 (n' : Int), .int .u64 (u : Int), .int .u64 (d : Int), .int .u64 (mn' : Int), .int .u64 (mx' : Int)] 27) = w2 := ⟨_, rfl⟩
  have HB2 : Hid (Below w.heap.size w w2) := by rw [← hw2]; exact bel2 _ _ _
  have HX : Hid (w2.heap[w.heap.size]? = some (.cells #[.int .i64 hi, .int .u64 lo, .slice (some ⟨g, 0, none⟩) L.length (L.length + 2), .int .u64 (n : Int), .complex .f64 s c, .float .f64 mn, .float .f64 mx] 32 (0, 0))) := by rw [← hw2]; exact Pr.new1 _ _ _
  have HY : Hid (w2.heap[w.heap.size + 1]? = some (.cells #[.int .i64 hi', .int .u64 lo', .slice a1 L.length c1, .int .u64 (n' : Int), .int .u64 (u : Int), .int .u64 (d : Int), .int .u64 (mn' : Int), .int .u64 (mx' : Int)] 27 (0, 0))) := by rw [← hw2]; exact Pr.new2 _ _ _
  have hr2 : RowC w2 g 0 (L ++ [(91, 0), (92, 0)]) := hr.below HB2.out (fun k => hr.lt k)
  have HSC : Hid (∀ W, Below w2.heap.size w2 W → Calls Tryz.prog 33 #[.slice (some ⟨g, 0, none⟩) L.length (L.length + 2), .slice a1 L.length c1] W fun e w' => e = .returned (.bool true) ∧ Below W.heap.size W w') := fun W hW => by
    have hx : SN W (.slice (some ⟨g, 0, none⟩) L.length (L.length + 2)) L := Or.inr ⟨g, 0, L.length + 2, rfl, by omega, row_head (hr2.below hW (fun k => hr2.lt k))⟩
    have := scounts_sn hx ((hA.below HB2.out).below hW) (by omega) (by omega)
    rw [decide_eq_true (rfl : L = L)] at this
    exact this
  have HRow : Hid (RowC w2 g 0 (L ++ [(91, 0), (92, 0)])) := hr2
  obtain ⟨x0, x1, x2, x3, x4, x5, x6⟩ := seven_cells HX
  obtain ⟨y0, y1, y2, y3, y4, y5, y6, y7⟩ := eight_cells HY
  have i0 : (0 : Int) ≤ (L.length : Int) + 2 := by omega
  have i1 : (L.length : Int) + 2 ≤ ((L.length + 2 : Nat) : Int) := by omega
  clear hr hA hr2
  go_enter Tryz.func12, Tryz.ntmps12
  go_upto_region 2 with fail
  clear hw2
  have HKS : Hid (KSt (w.heap.size + 1) a1 L.length c1 w2 w2) := ⟨y2, Below.refl _ _⟩
  have HKSd : Hid (KSt (w.heap.size + 1) a1 L.length c1 w2 w2.drew) := ⟨y2, (Below.refl _ _).drew⟩
  have j0 : (0 : Int) ≤ (L.length : Int) := by omega
  have j1 : (L.length : Int) ≤ (L.length : Int) + 2 := by omega
  have j2 : L.length ≤ L.length + 2 := by omega
  generalize hB : w.heap.size = B at *
  go_region_held3 (fun W => KSt (B + 1) a1 L.length c1 w2 W) (first | with_reducible assumption | with_reducible exact HKS.out | with_reducible exact HKSd.out)
    (first | (go_at_call 33; with_reducible refine Calls.mono (HSC.out _ (KSt.b (by assumption))) ?_; rintro e w3 ⟨rfl, hb3⟩; have hk3 := KSt.kept (by assumption) hb3))
  all_goals
    obtain ⟨t0, t1⟩ := marks_all (KSt.b hk3) HRow
    have y23 := (KSt.c hk3)
    have HB3 := hid_of (KSt.b hk3)
    go_wp2_with fail
    go_ret
    subst hB
    exact ⟨rfl, bt HB2.out HB3.out⟩
end Go.Proofs.YtbgdmlekhobjdaaGreat
