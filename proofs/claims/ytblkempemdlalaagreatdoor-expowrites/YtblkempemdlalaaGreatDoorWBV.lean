/- ExpoWrites: THE WALK. Own work of the verifier. -/
import Derived.Test.YtblkempemdlalaaGreatDoorWBT
import Derived.Test.YtblkempemdlalaaGreatDoorWBA
namespace Go.Proofs.YtblkempemdlalaaGreatDoor
open Go.RowKit Me

theorem rpr_all : RPr := fun f hf W => (Rl.dprint_any f hf W).mono fun e w' ⟨l, he, hl, hb⟩ => ⟨by rw [he, Rl.doc_text f hf l hl], hb⟩
theorem wr_dw {w W : World} {s : Sn} {A : List (List UInt8)} {e f : Ending} (hA : A ≠ []) (h : WrQ w s A e W) (k : DwQ s A f) : ∃ ao n cap z l, e = .returned (.tuple #[.slice ao n cap, .int .i64 z]) ∧ f = .returned (.tuple #[.string ⟨l⟩, .int .i64 z]) ∧ ∀ W', Below W.heap.size W W' → (convert 27 9 (.slice ao n cap)).run Tryz.prog W' = .ok (.string ⟨l⟩) W' := by
 have hnil : ∀ W' : World, (convert 27 9 (.slice none 0 0)).run Tryz.prog W' = .ok (.string ⟨#[]⟩) W' := fun W' => conv_own (B := 0) (l := []) ⟨rfl, Or.inl ⟨rfl, rfl⟩⟩
 have hfit : (wrL [] A).2 = fitB A.flatten := by
  have := wrL_all A []
  rw [List.nil_append] at this
  cases h1 : (wrL [] A).2 <;> cases h2 : fitB A.flatten <;> simp_all
 rcases h with ⟨h1, rfl⟩ | ⟨h1, h2, rfl⟩ | ⟨h1, h2, ao, cap, rfl, ho⟩ <;> rcases k with ⟨k1, rfl⟩ | ⟨k1, k2, rfl⟩ | ⟨k1, k2, rfl⟩
 ·exact ⟨none, 0, 0, _, #[], rfl, rfl, fun W' _ => hnil W'⟩
 ·exact absurd k1 h1
 ·exact absurd k1 h1
 ·exact absurd h1 k1
 ·exact ⟨none, 0, 0, 4, #[], rfl, rfl, fun W' _ => hnil W'⟩
 ·rw [hfit, k2] at h2; cases h2
 ·exact absurd h1 k1
 ·rw [hfit, k2] at h2; cases h2
 ·exact ⟨ao, _, cap, 0, _, rfl, rfl, fun W' hb => conv_own (own_belG ho hb)⟩
theorem wr_one' {w W : World} {s : Sn} {A : List (List UInt8)} {e : Ending} (h : WrQ w s A e W) : ∃ ao n cap z, e = .returned (.tuple #[.slice ao n cap, .int .i64 z]) ∧ True := by
 rcases h with ⟨_, rfl⟩ | ⟨_, _, rfl⟩ | ⟨_, _, ao, cap, rfl, _⟩
 ·exact ⟨none, 0, 0, _, rfl, trivial⟩
 ·exact ⟨none, 0, 0, 4, rfl, trivial⟩
 ·exact ⟨ao, _, cap, 0, rfl, trivial⟩
set_option maxRecDepth 100000 in
set_option maxHeartbeats 1000000 in
theorem writes_walk (s : Sn) (v : Value) (hS : SnW s) (w : World) (hv : SnAt w s v) (ht : Wi.Tab w) (hg : Rl.Glob2 w) :
  Calls Tryz.prog 3 #[v] w fun e w' => e = .returned (.bool true) ∧ Below w.heap.size w w' := by
 have hv0 := hv
 obtain ⟨uv, rfl, hu⟩ := hv
 obtain ⟨ao, b, o, cap, rfl, hao, -, -, hr⟩ := hu.open
 obtain ⟨W0, hW0⟩ : ∃ W0, W0 = w.alloc (.cells #[.int .i64 s.p, .slice ao s.vs.length cap, .int .u64 (s.r : Int)] 25) := ⟨_, rfl⟩
 have hN0 : W0.heap[w.heap.size]? = some (.cells #[.int .i64 s.p, .slice ao s.vs.length cap, .int .u64 (s.r : Int)] 25) := by rw [hW0]; exact new_1 w _
 have hb0 : Below w.heap.size w W0 := by rw [hW0]; exact bel1 w _
 have HAw : La.HidC _ _ _ _ _ := awake_any W0 (ht.below hb0)
 have HWr : Hid (∀ W, Below w.heap.size w W → _) := fun W hb => write_any (vlL s.p.toNat) s _ hS W (hv0.below hb) (ht.below hb) (wv_all hS (ht.below hb) (hg.below hb))
 have HDw : Hid (∀ W, Below w.heap.size w W → _) := fun W hb => dwrite_any rpr_all s _ hS W (hv0.below hb)
 have HBx : Hid (∀ W, Below W0.heap.size W0 W → W.cell? ⟨w.heap.size, 0, none⟩ = some (.int .i64 s.p) ∧ W.cell? ⟨w.heap.size, 1, none⟩ = some (.slice ao s.vs.length cap) ∧ W.cell? ⟨w.heap.size, 2, none⟩ = some (.int .u64 (s.r : Int))) := fun W hb => by
  have := (hb.block _ (Array.getElem?_eq_some_iff.1 hN0).1).trans hN0
  refine ⟨?_, ?_, ?_⟩ <;> simp [World.cell?, this]
 have HW0 := hid_of hW0
 have HB0 := hid_of hb0
 have HAn : Hid (exL (vlL s.p.toNat) s ≠ []) := by simp [Hid, exL]
 clear hv0 hu ht hg hS hr hN0 hb0 hW0
 generalize exL (vlL s.p.toNat) s = A at *
 go_enter Tryz.func3, Tryz.ntmps3
 go_upto_region 1 with fail
 rw [← HW0.out]
 clear HW0
 go_wp2_with fail
 refine (HAw.out).mono ?_
 rintro e w2 ⟨rfl, hb2⟩
 obtain ⟨c0, c1, c2⟩ := HBx.out w2 hb2
 have D2 : La.HidC _ _ _ _ _ := HWr.out w2 (bt HB0.out hb2)
 have HB2 := hid_of hb2
 clear HAw HWr hb2
 go_upto_region 3 with fail
 go_wp2_with fail
 refine (D2.out).mono ?_
 rintro e w3 ⟨hq, hb3⟩
 have D3 : La.HidC _ _ _ _ _ := HDw.out w3 (bt HB0.out (bt HB2.out hb3))
 obtain ⟨c0, c1, c2⟩ := HBx.out w3 (bt HB2.out hb3)
 have HB3 := hid_of (bt HB2.out hb3)
 have HQ := hid_of hq
 clear D2 hb3 HB2 HDw
 have HFo : Hid (∃ xa n xc z, e = .returned (.tuple #[.slice xa n xc, .int .i64 z])) := by
  obtain ⟨xa, n, xc, z, q, _⟩ := wr_one' HQ.out
  exact ⟨xa, n, xc, z, q⟩
 obtain ⟨xa, n, xc, z, rfl⟩ := HFo.out
 clear HFo hq
 go_upto_region 4 with fail
 go_wp2_with fail
 refine (D3.out).mono ?_
 rintro e w4 ⟨hq, hb4⟩
 obtain ⟨ya, m, yc, z', l, e1, e2, hcv⟩ := wr_dw HAn.out HQ.out hq
 obtain ⟨rfl, rfl, rfl, rfl⟩ : xa = ya ∧ n = m ∧ xc = yc ∧ z = z' := by
  simp at e1; exact ⟨e1.1.1, e1.1.2.1, e1.1.2.2, e1.2⟩
 subst e2
 have hc4 := hcv w4 hb4
 have HB4 := hid_of (bt HB0.out (bt HB3.out hb4))
 clear D3 hq hcv e1 HQ HB3 HBx hb4 HB0 c0 c1 c2
 go_wp2_with fail
 go_ret
 exact ⟨retB (by simp), HB4.out⟩
end Go.Proofs.YtblkempemdlalaaGreatDoor
