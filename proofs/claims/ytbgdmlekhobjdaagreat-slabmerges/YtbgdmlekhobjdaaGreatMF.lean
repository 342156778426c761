/- SlabMerges: its walk. Own work of the verifier. -/
import Derived.Test.YtbgdmlekhobjdaaGreatMA
namespace Go.Proofs.YtbgdmlekhobjdaaGreat
open Go.RowKit
set_option maxHeartbeats 16000000 in
set_option maxRecDepth 100000 in
theorem slabMerges_walk (w : World) (X Y : Rq) (oX : X.Ok) (oY : Y.Ok) (hsum : X.L.length + Y.L.length ≤ 600000) (sx : SN w (.slice X.ao X.L.length X.cap) X.L) (sy : SN w (.slice Y.ao Y.L.length Y.cap) Y.L) :
    Calls Tryz.prog 3 #[rpart X.hi X.lo (.slice X.ao X.L.length X.cap) X.n X.s X.c X.mn X.mx, rpart Y.hi Y.lo (.slice Y.ao Y.L.length Y.cap) Y.n Y.s Y.c Y.mn Y.mx] w fun r w' => r = .returned (.bool true) ∧ Below w.heap.size w w' := by
  have HSM := hid_of hsum
  clear hsum
  have OX := hid_of oX
  have OY := hid_of oY
  have SX := hid_of sx
  have SY := hid_of sy
  clear oX oY sx sy
  have HFX := hid_of fixed_any
  go_enter Tryz.func3, Tryz.ntmps3
  go_upto_region 1 with fail
  generalize hW1 : (w.alloc (.cells #[.int .i64 X.hi, .int .u64 X.lo, .slice X.ao X.L.length X.cap, .int .u64 (X.n : Int), .int .u64 (X.s : Int), .int .u64 (X.c : Int), .int .u64 (X.mn : Int), .int .u64 (X.mx : Int)] 27)).alloc (.cells #[.int .i64 Y.hi, .int .u64 Y.lo, .slice Y.ao Y.L.length Y.cap, .int .u64 (Y.n : Int), .int .u64 (Y.s : Int), .int .u64 (Y.c : Int), .int .u64 (Y.mn : Int), .int .u64 (Y.mx : Int)] 27) = W1
  have PX0 : Px w.heap.size X W1 := by rw [← hW1]; exact Pr.new1 _ _ _
  have PY0 : Px (w.heap.size + 1) Y W1 := by rw [← hW1]; exact Pr.new2 _ _ _
  have hb1 : Below w.heap.size w W1 := by rw [← hW1]; exact bel2 _ _ _
  have HPX := hid_of PX0
  have HPY := hid_of PY0
  have HB1 := hid_of hb1
  clear hW1 PX0 PY0 hb1
  generalize hkx : w.heap.size = kx at *
  have HKX := hid_of hkx
  clear hkx
  go_upto_region 2 with (first | (go_at_call 5; with_reducible refine Calls.mono (HFX.out _) ?_; rintro e W2 ⟨rfl, hb2⟩))
  have QX := hid_of (show Px kx X W2 from hk HPX.out hb2)
  have QY := hid_of (show Px (kx + 1) Y W2 from hk HPY.out hb2)
  have HB2 : Hid (Below w.heap.size w W2) := bt (by rw [HKX.out]; exact HB1.out) hb2
  clear HPX HPY HB1 hb2 HFX
  obtain ⟨x0, x1, x2, x3, x4, x5, x6, x7⟩ := eight_cells QX
  have HOF := hid_of (zof_any X.hi X.lo X.ao X.cap X.n X.s X.c X.mn X.mx X.L (Nat.le_trans OX.out.hl (by decide)) W2 (SX.out.below HB2.out))
  have sF := store_f
  have sC := store_c
  go_upto_region 3 with (first | (go_at_call 6; with_reducible refine Calls.mono HOF.out ?_; rintro e w3 hq; unfold OfQ at hq; obtain ⟨ga, rfl, HGa, hga, HB3⟩ := hq))
  clear HOF x0 x1 x2 x3 x4 x5 x6 x7
  generalize hV3 : w3.alloc (.cells #[.int .i64 X.hi, .int .u64 X.lo, .slice (some ⟨ga, 0, none⟩) X.L.length (X.L.length + 2), .int .u64 (X.n : Int), .complex .f64 X.s X.c, .float .f64 X.mn, .float .f64 X.mx] 32) = V3
  have hb3 : Below w3.heap.size w3 V3 := by rw [← hV3]; exact bel1 _ _
  have HAX : Hid (Ax w3.heap.size ga X V3) := by rw [← hV3]; exact new_1 _ _
  have HG3 := hid_of (show Gx ga X.L V3 from hk HGa.out hb3)
  have hb23 := bt HB3.out hb3
  have RX := hid_of (show Px kx X V3 from hk QX.out hb23)
  have RY := hid_of (show Px (kx + 1) Y V3 from hk QY.out hb23)
  have HB4 := hid_of (bt HB2.out hb23)
  have HGE := hid_of (Nat.le_trans HB2.out.size hga)
  clear hV3 hb3 hb23 HGa QX QY HB2 HB3 hga
  generalize w3.heap.size = ka at *
  obtain ⟨x0, x1, x2, x3, x4, x5, x6, x7⟩ := eight_cells RY
  have HOF := hid_of (zof_any Y.hi Y.lo Y.ao Y.cap Y.n Y.s Y.c Y.mn Y.mx Y.L (Nat.le_trans OY.out.hl (by decide)) V3 (SY.out.below HB4.out))
  go_upto_region 4 with (first | (go_at_call 6; with_reducible refine Calls.mono HOF.out ?_; rintro e w5 hq; unfold OfQ at hq; obtain ⟨gb, rfl, HGb, hgb, HB5⟩ := hq))
  clear HOF x0 x1 x2 x3 x4 x5 x6 x7 sF sC
  generalize hV5 : w5.alloc (.cells #[.int .i64 Y.hi, .int .u64 Y.lo, .slice (some ⟨gb, 0, none⟩) Y.L.length (Y.L.length + 2), .int .u64 (Y.n : Int), .complex .f64 Y.s Y.c, .float .f64 Y.mn, .float .f64 Y.mx] 32) = V5
  have hb5 : Below w5.heap.size w5 V5 := by rw [← hV5]; exact bel1 _ _
  have HAY : Ax w5.heap.size gb Y V5 := by rw [← hV5]; exact new_1 _ _
  have hb45 := bt HB5.out hb5
  have hlt := (Array.getElem?_eq_some_iff.1 HG3.out).1
  have hs5 := hb45.size
  have hbW := HB4.out.size
  have hSA : SA w V5.heap.size X Y X.L kx (kx + 1) ka ga w5.heap.size gb V5 := ⟨hk RX.out hb45, hk RY.out hb45, hk HAX.out hb45, HAY, hk HG3.out hb45, hk HGb.out hb5, bt HB4.out hb45, HGE.out, by omega, by omega, Nat.le_refl _, by omega, HSM.out⟩
  clear hV5 hb5 HAY hb45 hlt hs5 hbW HGb HG3 RX RY HAX HB4 HB5 hgb HGE HKX
  rename_i hKe
  exact sm_both w _ X Y kx (kx + 1) ka ga _ gb hSA OX.out OY.out SX.out SY.out _ _ _ _ _ _ _ _ _ _ _ _ _ _ _ _ _ _ _ _ _ _ _ _ _ _ _ _ _ _ _ _ _ _ _ _ _ _ _ _ _ _ _ _ _ _ _ _ _ _ _ _ _ _ _ _ _ _ _ _ _ _ _ _ _ _ _ _ _ _ _ _ _ _ _ _ _ _ _ _ _ _ _ _ _ _ _ _ _ _ _ _ _ _ _ _ _ _ _ _ _ _ _ _ _ _ _ _ _ _ _ _ _ _ _ _ _ _ _ _ _ _ _ _ _ _ _ _ _ _ _ _ _ _ _ hKe
end Go.Proofs.YtbgdmlekhobjdaaGreat
