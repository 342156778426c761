import Derived.Test.YtbobhjgndgaoaaaDoorT9
import Derived.Deep.RegionWith
namespace Go.Proofs.YtbobhjgndgaoaaaDoor
open Go.RowKit Go.Sort

/-- What reading letters comes to. -/
def readL (l : List UInt8) : Int := l.foldl (fun a c => rnd (rnd (a * 10) + ((c.toNat : Int) - 48))) 0
theorem readL_snoc (l : List UInt8) (c : UInt8) : readL (l ++ [c]) = rnd (rnd (readL l * 10) + ((c.toNat : Int) - 48)) := by simp [readL]
theorem inR_readL (l : List UInt8) : InR (readL l) := by
  rcases List.eq_nil_or_concat l with rfl | ⟨l', c, rfl⟩
  · exact ⟨by decide, by decide⟩
  · rw [List.concat_eq_append, readL_snoc]; exact inR_rnd _
theorem take_snoc' (l : List UInt8) (k : Nat) (h : k < l.length) : l.take (k + 1) = l.take k ++ [l[k]] := by
  rw [List.take_succ_eq_append_getElem h]

structure RdInv (w wr : World) (n : Int) : Prop where
  below : Below w.heap.size w wr
  size : w.heap.size + 1 < wr.heap.size
  c0 : wr.cell? ⟨w.heap.size, 0, none⟩ = some (.int .i64 0)
  c1 : wr.cell? ⟨w.heap.size, 1, none⟩ = some (.int .u64 0)
  d0 : wr.cell? ⟨w.heap.size + 1, 0, none⟩ = some (.int .i64 (hiOf n))
  d1 : wr.cell? ⟨w.heap.size + 1, 1, none⟩ = some (.int .u64 (loOf n))
  f0 : wr.frozen? ⟨w.heap.size, 0, none⟩ = false
  f1 : wr.frozen? ⟨w.heap.size, 1, none⟩ = false
  g0 : wr.frozen? ⟨w.heap.size + 1, 0, none⟩ = false
  g1 : wr.frozen? ⟨w.heap.size + 1, 1, none⟩ = false
theorem RdInv.step {w wr w1 : World} {n : Int} (h : RdInv w wr n) (hb : Below wr.heap.size wr w1) : RdInv w w1 n := by
  obtain ⟨b, s, c0, c1, d0, d1, f0, f1, g0, g1⟩ := h
  refine ⟨b.trans (hb.mono b.size), by have := hb.size; omega, ?_, ?_, ?_, ?_, ?_, ?_, ?_, ?_⟩
  · rw [hb.cell (p := ⟨w.heap.size, 0, none⟩) (by show w.heap.size < _; omega), c0]
  · rw [hb.cell (p := ⟨w.heap.size, 1, none⟩) (by show w.heap.size < _; omega), c1]
  · rw [hb.cell (p := ⟨w.heap.size + 1, 0, none⟩) (by show w.heap.size + 1 < _; omega), d0]
  · rw [hb.cell (p := ⟨w.heap.size + 1, 1, none⟩) (by show w.heap.size + 1 < _; omega), d1]
  · rw [hb.frozen (p := ⟨w.heap.size, 0, none⟩) (by show w.heap.size < _; omega), f0]
  · rw [hb.frozen (p := ⟨w.heap.size, 1, none⟩) (by show w.heap.size < _; omega), f1]
  · rw [hb.frozen (p := ⟨w.heap.size + 1, 0, none⟩) (by show w.heap.size + 1 < _; omega), g0]
  · rw [hb.frozen (p := ⟨w.heap.size + 1, 1, none⟩) (by show w.heap.size + 1 < _; omega), g1]

theorem RdInv.drew {w wr : World} {n : Int} (h : RdInv w wr n) : RdInv w wr.drew n := h.step (Below.drew (Below.refl _ _))
theorem RdInv.set {w wr : World} {n m : Int} (h : RdInv w wr n) : RdInv w ((wr.setCell ⟨w.heap.size + 1, 0, none⟩ (.int .i64 (hiOf m))).setCell ⟨w.heap.size + 1, 1, none⟩ (.int .u64 (loOf m))) m := by
  obtain ⟨b, s, c0, c1, d0, d1, f0, f1, g0, g1⟩ := h
  refine ⟨(b.setCell (by show w.heap.size ≤ w.heap.size + 1; omega) _).setCell (by show w.heap.size ≤ w.heap.size + 1; omega) _, by simpa [World.setCell] using s, ?_, ?_, ?_, ?_, ?_, ?_, ?_, ?_⟩ <;> simp [go_sem, *]

set_option maxHeartbeats 1000000 in
set_option maxRecDepth 100000 in
theorem read_any (s : ByteArray) (hs : s.size ≤ 40) (w : World) :
    Calls Tryd.prog 38 #[.string s] w fun e w' =>
      e = .returned (num (if Lib.hasPrefix s.data.toList [45] then rnd (- readL (Lib.trimPrefix s.data.toList [45])) else readL (Lib.trimPrefix s.data.toList [45]))) ∧ Below w.heap.size w w' := by
  have hT : (Lib.trimPrefix s.data.toList [45]).length ≤ 40 := by
    unfold Lib.trimPrefix; split <;> simp <;> (have : s.data.size = s.size := rfl; omega)
  have HC : Hid _ := fun W => Tryd.strings_CutPrefix s ⟨#[45]⟩ W
  have hc : Hid (∀ W, Calls Tryd.prog 48 #[.string s, .string ⟨#[45]⟩] W fun e w' => e = .returned (.tuple #[.string ⟨(Lib.trimPrefix s.data.toList [45]).toArray⟩, .bool (Lib.hasPrefix s.data.toList [45])]) ∧ w' = W) := HC.out
  clear HC
  generalize Lib.trimPrefix s.data.toList [45] = T at *
  generalize Lib.hasPrefix s.data.toList [45] = b at *
  go_enter Tryd.func38, Tryd.ntmps38
  go_wp2_with fail
  refine (hc.out _).mono ?_
  rintro e w1 ⟨rfl, rfl⟩
  go_wp2
  go_loopw [14, 6] (fun a _ wr => ∃ k : Nat, k ≤ T.length ∧ a = .int .i64 k ∧ RdInv w wr (readL (T.take k))) (fun a _ _ => T.length - (intOf a).toNat)
  case atStart =>
    refine ⟨0, Nat.zero_le _, rfl, (bel2 w _ _), ?_, ?_, ?_, ?_, ?_, ?_, ?_, ?_, ?_⟩ <;> simp [go_sem, readL] <;> rfl
  case round =>
    obtain ⟨k, hk, rfl, iv⟩ := hrel
    have hi := inR_readL (T.take k)
    by_cases hlt : k < T.length
    · have hsn : readL (T.take (k + 1)) = rnd (rnd (readL (T.take k) * 10) + ((T[k].toNat : Int) - 48)) := by rw [take_snoc' T k hlt]; exact readL_snoc _ _
      have HSN : Hid _ := hsn
      have IV : Hid _ := iv
      obtain ⟨b, s1, c0, c1, d0, d1, f0, f1, g0, g1⟩ := iv
      clear hsn
      have ht := ten_any _ _ (wf_of hi)
      rw [val_hl] at ht
      have ho := fun (x : Int) (h1 : -9223372036854775808 ≤ x) (h2 : x ≤ 9223372036854775807) => add_any _ _ _ _ (wf_rnd (readL (T.take k) * 10)) (wf_of (n := x) ⟨by omega, by omega⟩)
      simp only [val_hl] at ho
      have HT : Hid _ := ht
      have HO : Hid _ := ho
      clear ht ho
      obtain ⟨c, hcc⟩ : ∃ c : Int, c = (T[k].toNat : Int) - 48 := ⟨_, rfl⟩
      have hby : T[k].toNat < 256 := T[k].toNat_lt
      have hx : ∀ h, IntKind.i64.wrap (IntKind.i64.wrap ((({ data := T.toArray } : ByteArray)[k]'h).toNat : Int) - 48) = c := by
        intro h
        have e : ({ data := T.toArray } : ByteArray)[k]'h = T[k] := rfl
        rw [e, IntKind.wrap_i64, IntKind.wrap_i64, hcc]
        omega
      rw [← hcc] at HSN
      have hc1 : -48 ≤ c := by omega
      have hc2 : c ≤ 255 := by omega
      have HX : Hid _ := hx
      clear hcc hby hx
      generalize readL (T.take k) = n at *
      go_wp2
      go_region_with (first
        | (go_at_call 49; refine (HT.out _).mono ?_; rintro e w1 ⟨rfl, hb1⟩)
        | (go_at_call 20; rw [HX.out]; refine (of_any c (by omega) (by omega) _).mono ?_; rintro e w2 ⟨rfl, hb2⟩)
        | (go_at_call 10; refine (HO.out c (by omega) (by omega) _).mono ?_; rintro e w3 ⟨rfl, hb3⟩; have IV3 := ((IV.out.drew.step hb1).step hb2).step hb3; obtain ⟨b3, s3, c03, c13, d03, d13, f03, f13, g03, g13⟩ := IV3))
      all_goals
        go_wp2
        go_roundw
        case rel => exact ⟨k + 1, by omega, by go_num, by rw [HSN.out]; exact (((IV.out.drew.step hb1).step hb2).step hb3).set⟩
        case measure => simp [intOf]; omega
    · rw [List.take_of_length_le (by omega)] at iv hi
      have IV : Hid _ := iv
      obtain ⟨b', s1, c0, c1, d0, d1, f0, f1, g0, g1⟩ := iv
      have hn := neg_any _ _ (wf_of hi)
      rw [val_hl] at hn
      have HN : Hid _ := hn
      clear hn

      cases b
      · go_wp2
        simp [bodyPost, results, Tryd.results38, go_sem, c0, c1]
        refine Below.setCell (Below.setCell b' ?_ _) ?_ _ <;> exact Nat.le_refl _
      · go_wp2_with fail
        refine (HN.out _).mono ?_
        rintro e w1 ⟨rfl, hb1⟩
        obtain ⟨b1, s11, c01, c11, d01, d11, f01, f11, g01, g11⟩ := IV.out.step hb1
        go_wp2
        simp [bodyPost, results, Tryd.results38, go_sem, c01, c11]
        refine Below.setCell (Below.setCell b1 ?_ _) ?_ _ <;> exact Nat.le_refl _
end Go.Proofs.YtbobhjgndgaoaaaDoor
