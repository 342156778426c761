/- FormatFloat. Own work of the verifier. -/
import Derived.Test.YtmejmohambhaaaaGreatDoorL11
namespace Go.Proofs.YtmejmohambhaaaaGreatDoor
open Go.RowKit Go.Sort

def asI (bs : List UInt8) : List Int := bs.map fun b => (b.toNat : Int)
theorem Buf.text {B : Nat} {o : Option (Nat × Nat)} {W0 w : World} {v : Value} {bs : List UInt8} (h : Buf B o W0 v (asI bs) w) : ∃ g cap, v = .slice (some ⟨g, 0, none⟩) bs.length cap ∧
    (convert 58 9 (.slice (some ⟨g, 0, none⟩) bs.length cap)).run Tryz.prog w = .ok (.string ⟨bs.toArray⟩) w := by
  obtain ⟨g, cap, cur, hv, hB, hcur⟩ := own_of h.own h.nz
  have hl : (asI bs).length = bs.length := by simp [asI]
  rw [hl] at hv
  refine ⟨g, cap, hv, ?_⟩
  have hown := h.own
  rw [hl, hv] at hown
  exact run_convert_bytes_back w 58 9 5 ⟨g, 0, none⟩ cap bs Tryz.underlying58 Tryz.underlying5 Tryz.underlying9 (fun i hi' => by
    exact hown.cells (g := g) rfl i _ (by simp [asI, hi']))
set_option maxHeartbeats 1000000 in
set_option maxRecDepth 100000 in
theorem format_of (x : Nat) (fmt : Int) (bs : List UInt8) (w : World) (hGl : Glob w)
    (HF : Hid (∀ (v : Value) (W : World), Buf w.heap.size none w v [] W → Glob W → Calls Tryz.prog 43 #[v, .float .f64 x, .int .u8 fmt, .int .i64 (-1)] W fun r w' => ∃ v' o, r = .returned v' ∧ Buf w.heap.size o w v' (asI bs) w')) :
    Calls Tryz.prog 31 #[.float .f64 x, .int .u8 fmt, .int .i64 (-1), .int .i64 64] w fun r w' => r = .returned (.string ⟨bs.toArray⟩) ∧ Below w.heap.size w w' := by
  obtain ⟨i0, hi, hz0, hz1, hz2⟩ := info_parts infoByte
  go_enter Tryz.func31, Tryz.ntmps31
  go_wp2_with (first
    | (at_make; refine wpList_make_own _ rfl _ _ 58 rfl w.heap.size 5 i0 (.int .u8 0) 1 Tryz.underlying58 hi hz0 hz1 _ _ _ 24 rfl rfl (by decide) (by rw [hz2]; decide) (by unfold maxLen; decide) (Nat.le_refl _) ?_; intro w1 hown hgrow)
    | fail)
  have hb1 : Below w.heap.size w w1 := (Below.refl _ _).grown hgrow (Nat.le_refl _) (fun k e => by cases e)
  have hbuf : Buf w.heap.size none w (.slice (some ⟨w.heap.size, 0, none⟩) 0 24) [] w1 := ⟨hown, by simp, hb1, hb1.size, by decide, fun g u e => by cases e⟩
  refine (HF.out _ w1 hbuf (hGl.below hb1)).mono ?_
  rintro r w2 ⟨v', o, rfl, hb2⟩
  obtain ⟨g, cap, rfl, hcv⟩ := hb2.text
  go_wp2
  go_ret
  exact ⟨rfl, hb2.below⟩
set_option maxHeartbeats 1000000 in
set_option maxRecDepth 100000 in
theorem Format_of (x : Nat) (fmt : Int) (bs : List UInt8) (w : World) (hGl : Glob w)
    (HF : Hid (∀ (v : Value) (W : World), Buf w.heap.size none w v [] W → Glob W → Calls Tryz.prog 43 #[v, .float .f64 x, .int .u8 fmt, .int .i64 (-1)] W fun r w' => ∃ v' o, r = .returned v' ∧ Buf w.heap.size o w v' (asI bs) w')) :
    Calls Tryz.prog 19 #[.float .f64 x, .int .u8 fmt, .int .i64 (-1), .int .i64 64] w fun r w' => r = .returned (.string ⟨bs.toArray⟩) ∧ Below w.heap.size w w' := by
  go_enter Tryz.func19, Tryz.ntmps19
  go_wp2_with fail
  refine (format_of x fmt bs w hGl HF).mono ?_
  rintro r w2 ⟨rfl, hb2⟩
  go_wp2
  go_ret
  exact ⟨rfl, hb2⟩
end Go.Proofs.YtmejmohambhaaaaGreatDoor
