/- ExpoKeeps: the walk's parts. Own work of the verifier. -/
import Derived.Test.YtlgfgeacphkhnaaGreatDoorWBS
import Derived.Test.YtlgfgeacphkhnaaGreatDoorWBR
import Derived.Test.YtlgfgeacphkhnaaGreatDoorWBI
namespace Go.Proofs.YtlgfgeacphkhnaaGreatDoor
open Go.RowKit Me

def sDrop : Nat → Code → Code
 | 0, c => c
 | n + 1, .seq _ b => sDrop n b
 | _ + 1, c => c
def sFirst : Code → Code
 | .seq a _ => a
 | c => c
def bodyC : Option Code → Code
 | some c => c
 | none => .skip
noncomputable abbrev kB : Code := bodyC Tryz.f3.body
abbrev kQ (w : World) : Exit → Act → World → Prop := bodyPost Tryz.prog Tryz.f3 fun r w' => r = .returned (.bool true) ∧ Below w.heap.size w w'
def fr (f : Nat → Value) : Array Value := ((List.range 210).map f).toArray
set_option maxRecDepth 100000 in
theorem fr_lit (f : Nat → Value) : fr f = #[f 0, f 1, f 2, f 3, f 4, f 5, f 6, f 7, f 8, f 9, f 10, f 11, f 12, f 13, f 14, f 15, f 16, f 17, f 18, f 19, f 20, f 21, f 22, f 23, f 24, f 25, f 26, f 27, f 28, f 29, f 30, f 31, f 32, f 33, f 34, f 35, f 36, f 37, f 38, f 39, f 40, f 41, f 42, f 43, f 44, f 45, f 46, f 47, f 48, f 49, f 50, f 51, f 52, f 53, f 54, f 55, f 56, f 57, f 58, f 59, f 60, f 61, f 62, f 63, f 64, f 65, f 66, f 67, f 68, f 69, f 70, f 71, f 72, f 73, f 74, f 75, f 76, f 77, f 78, f 79, f 80, f 81, f 82, f 83, f 84, f 85, f 86, f 87, f 88, f 89, f 90, f 91, f 92, f 93, f 94, f 95, f 96, f 97, f 98, f 99, f 100, f 101, f 102, f 103, f 104, f 105, f 106, f 107, f 108, f 109, f 110, f 111, f 112, f 113, f 114, f 115, f 116, f 117, f 118, f 119, f 120, f 121, f 122, f 123, f 124, f 125, f 126, f 127, f 128, f 129, f 130, f 131, f 132, f 133, f 134, f 135, f 136, f 137, f 138, f 139, f 140, f 141, f 142, f 143, f 144, f 145, f 146, f 147, f 148, f 149, f 150, f 151, f 152, f 153, f 154, f 155, f 156, f 157, f 158, f 159, f 160, f 161, f 162, f 163, f 164, f 165, f 166, f 167, f 168, f 169, f 170, f 171, f 172, f 173, f 174, f 175, f 176, f 177, f 178, f 179, f 180, f 181, f 182, f 183, f 184, f 185, f 186, f 187, f 188, f 189, f 190, f 191, f 192, f 193, f 194, f 195, f 196, f 197, f 198, f 199, f 200, f 201, f 202, f 203, f 204, f 205, f 206, f 207, f 208, f 209] := rfl
theorem fr_to (a : Array Value) (h : a.size = 210) : a = fr (fun i => a.getD i (.bool false)) := by
 apply Array.ext
 ·simp [fr, h]
 ·intro i h1 h2
  simp [fr, Array.getD, h1]
theorem kpt0 : sDrop 0 kB = .seq (sFirst (sDrop 0 kB)) (sDrop 1 kB) := by kernel_rfl
theorem kpt1 : sDrop 1 kB = .seq (sFirst (sDrop 1 kB)) (sDrop 2 kB) := by kernel_rfl
theorem kpt2 : sDrop 2 kB = .seq (sFirst (sDrop 2 kB)) (sDrop 3 kB) := by kernel_rfl
theorem kpt3 : sDrop 3 kB = .seq (sFirst (sDrop 3 kB)) (sDrop 4 kB) := by kernel_rfl
theorem kpt4 : sDrop 4 kB = .seq (sFirst (sDrop 4 kB)) (sDrop 5 kB) := by kernel_rfl
theorem kpt5 : sDrop 5 kB = .seq (sFirst (sDrop 5 kB)) (sDrop 6 kB) := by kernel_rfl
theorem kpt6 : sDrop 6 kB = .seq (sFirst (sDrop 6 kB)) (sDrop 7 kB) := by kernel_rfl
theorem kpt7 : sDrop 7 kB = .seq (sFirst (sDrop 7 kB)) (sDrop 8 kB) := by kernel_rfl
theorem kpt8 : sDrop 8 kB = .seq (sFirst (sDrop 8 kB)) (sDrop 9 kB) := by kernel_rfl
theorem kpt9 : sDrop 9 kB = .seq (sFirst (sDrop 9 kB)) (sDrop 10 kB) := by kernel_rfl
theorem kpt10 : sDrop 10 kB = .seq (sFirst (sDrop 10 kB)) (sDrop 11 kB) := by kernel_rfl
theorem kpt11 : sDrop 11 kB = .seq (sFirst (sDrop 11 kB)) (sDrop 12 kB) := by kernel_rfl
theorem wp_fr {c : Code} {Q : Exit → Act → World → Prop} {a : Array Value} {W : World} (h : a.size = 210) (k : Code.wp Tryz.prog c Q ⟨fr (fun i => a.getD i (.bool false)), []⟩ W) : Code.wp Tryz.prog c Q ⟨a, []⟩ W := by
 rw [← fr_to a h] at k
 exact k
end Go.Proofs.YtlgfgeacphkhnaaGreatDoor
/- ExpoKeeps: the copy is made. Own work of the verifier. -/
namespace Go.Proofs.YtlgfgeacphkhnaaGreatDoor
open Go.RowKit Me

set_option maxRecDepth 100000 in
set_option maxHeartbeats 8000000 in
theorem keeps_copy (s : Sn) (w W : World) (B : Nat) (ao : Option Addr) (b1 o1 cap : Nat) (v0 : Value) (f : Nat → Value) (Q : Exit → Act → World → Prop)
  (hl : s.vs.length ≤ 1048576) (hx : ∀ x ∈ s.vs, x.d.labels.length ≤ 1048576 ∧ x.cs.length ≤ 1048576) (hao : s.vs ≠ [] → ao = some ⟨b1, o1, none⟩) (hr : RowV w b1 o1 s.vs)
  (h1 : f 1 = .pointer (some ⟨w.heap.size, 0, none⟩)) (h2 : f 2 = .bool false) (h3 : f 3 = .pointer (some ⟨B, 0, none⟩)) (hC : Kc w B s (.slice ao s.vs.length cap) v0 [] W)
  (Hr : ∀ (f' : Nat → Value) (v : Value) (J : List Rv) (W' : World), f' 1 = .pointer (some ⟨w.heap.size, 0, none⟩) → f' 2 = .bool false → f' 3 = .pointer (some ⟨B, 0, none⟩) → J.map (·.1) = s.vs → Kc w B s (.slice ao s.vs.length cap) v J W' → Code.wp Tryz.prog (sDrop 6 kB) Q ⟨fr f', []⟩ W') :
  Code.wp Tryz.prog (sDrop 5 kB) Q ⟨fr f, []⟩ W := by
 have HR := hid_of hr
 have HX := hid_of hx
 have HC0 := hid_of hC
 have sF := store_f
 rw [kpt5]
 refine wp_seq_k fun K hK => ?_
 have HK : Hid (∀ (a : Array Value) (v : Value) (J : List Rv) (W' : World), a.size = 210 → a.getD 1 (.bool false) = .pointer (some ⟨w.heap.size, 0, none⟩) → a.getD 2 (.bool false) = .bool false → a.getD 3 (.bool false) = .pointer (some ⟨B, 0, none⟩) → J.map (·.1) = s.vs → Kc w B s (.slice ao s.vs.length cap) v J W' → K ⟨a, []⟩ W') := fun a v J W' e1 e2 e3 e4 e5 e6 => hK _ _ (wp_fr e1 (Hr _ v J W' e2 e3 e4 e5 e6))
 clear hr hx hC hK Hr
 rw [fr_lit, h1, h2, h3]
 clear h1 h2 h3
 dsimp only [sDrop, sFirst, bodyC, kB, Tryz.f3]
 obtain ⟨c0, c1, c2, _, _, _⟩ := three_cells HC0.out.g1
 go_upto_region 8 with fail
 clear c0 c1 c2
 go_loopw [43] (fun x W => ∃ (i : Nat) (v : Value) (J : List Rv), i ≤ s.vs.length ∧ x = .int .i64 (i : Int) ∧ Hid (J.map (·.1) = s.vs.take i) ∧ Hid (Kc w B s (.slice ao s.vs.length cap) v J W)) (fun x _ => s.vs.length - (intOf x).toNat)
 case atStart => exact ⟨0, v0, [], by omega, rfl, hid_of rfl, HC0⟩
 case round =>
  clear HC0
  obtain ⟨i, v, J, hi, rfl, HJ, HC⟩ := hrel
  by_cases hlt : i < s.vs.length
  ·have hlt' : (i : Int) < (s.vs.length : Int) := by omega
   obtain rfl := hao (by intro e; rw [e] at hlt; simp at hlt)
   obtain ⟨lv, cv, g1, g2, g3⟩ := HR.out.below HC.out.bl i hlt
   obtain ⟨la, lc, rfl⟩ := g2.form
   obtain ⟨ca, cc, rfl⟩ := g3.form
   have hix := index_val b1 o1 s.vs.length cap i (i : Int) rfl hlt
   obtain ⟨r0, r1, r2, r3, r4, r5, r6, r7, r8, r9, r10⟩ := g1.cC
   have HL := hid_of g2
   have HCn := hid_of g3
   have HXi := hid_of (HX.out _ (List.getElem_mem hlt))
   have HN5 : Hid (Ci wr s.vs[i] (.slice la s.vs[i].d.labels.length lc) (.slice ca s.vs[i].cs.length cc) (wr.alloc (.cells (vc s.vs[i] (.slice la s.vs[i].d.labels.length lc) (.slice ca s.vs[i].cs.length cc)) 36))) := ⟨new_1 _ _, bel1 _ _⟩
   clear g1 g2 g3
   go_upto_region 10 with fail
   obtain ⟨w5, hw5⟩ : ∃ w5, wr.alloc (.cells (vc s.vs[i] (.slice la s.vs[i].d.labels.length lc) (.slice ca s.vs[i].cs.length cc)) 36) = w5 := ⟨_, rfl⟩
   rw [hw5] at HN5
   simp only [vc] at hw5
   rw [hw5]
   clear hw5 r0 r1 r2 r3 r4 r5 r6 r7 r8 r9 r10 hix
   go_cut [6] from 47 to 52 (fun x W => ∃ g, x = .slice (some ⟨g, 0, none⟩) 0 (s.vs[i].d.labels.length + 2) ∧ Hid (wr.heap.size < g) ∧ Hid (Ci wr s.vs[i] (.slice la s.vs[i].d.labels.length lc) (.slice ca s.vs[i].cs.length cc) W) ∧ Hid (W.ownsRow (wr.heap.size + 1) 46 2 (.slice (some ⟨g, 0, none⟩) (s.vs[i].d.labels.length + 2) (s.vs[i].d.labels.length + 2)) (s.vs[i].d.labels.length + 2) (List.replicate ((s.vs[i].d.labels.length + 2) * 2) (.string ⟨#[]⟩))))
   case first =>
    obtain ⟨k0, k1, k2, k3, k4, k5, k6, k7, k8, k9, k10⟩ := eleven_cells (hid_of HN5.out.g5)
    obtain ⟨q1, q2⟩ := HXi.out
    have hw2 : IntKind.i64.wrap ((s.vs[i].d.labels.length : Int) + 2) = (s.vs[i].d.labels.length : Int) + 2 := by rw [IntKind.wrap_i64]; omega
    go_wp2_with (first
     | (refine wpList_make_F _ rfl _ _ rfl (wr.heap.size + 1) _ (s.vs[i].d.labels.length + 2) rfl rfl (by first | rfl | omega | simp) (by omega) (HN5.out.size) ?_; intro w6 hown hgr))
    go_meet
    exact ⟨_, rfl, HN5.out.size, HN5.out.below (bel_gn hgr), hown⟩
   case rest =>
   obtain ⟨gl, rfl, Hgl, HI1, HO1⟩ := hcut
   clear HN5
   go_upto_region 11 with fail
   go_cut [7] from 53 to 57 (fun x W => ∃ g, x = .slice (some ⟨g, 0, none⟩) 0 (s.vs[i].cs.length + 2) ∧ Hid (wr.heap.size < g) ∧ Hid (Ci wr s.vs[i] (.slice la s.vs[i].d.labels.length lc) (.slice ca s.vs[i].cs.length cc) W) ∧ Hid (W.ownsRow (wr.heap.size + 1) 46 2 (.slice (some ⟨gl, 0, none⟩) (s.vs[i].d.labels.length + 2) (s.vs[i].d.labels.length + 2)) (s.vs[i].d.labels.length + 2) (List.replicate ((s.vs[i].d.labels.length + 2) * 2) (.string ⟨#[]⟩))) ∧ Hid (W.ownsRow (wr.heap.size + 1) 67 2 (.slice (some ⟨g, 0, none⟩) 0 (s.vs[i].cs.length + 2)) 0 []))
   case first =>
    obtain ⟨k0, k1, k2, k3, k4, k5, k6, k7, k8, k9, k10⟩ := eleven_cells (hid_of HI1.out.g5)
    obtain ⟨i0, hi0, hz0, hz1, hz2⟩ := info_parts infoC
    have hz0' := hid_of hz0
    have hz1' := hid_of hz1
    have hz2' := hid_of hz2
    clear hz0 hz1 hz2
    obtain ⟨q1, q2⟩ := HXi.out
    have hw2 : IntKind.i64.wrap ((s.vs[i].cs.length : Int) + 2) = (s.vs[i].cs.length : Int) + 2 := by rw [IntKind.wrap_i64]; omega
    go_wp2_with (first
     | (refine wpList_make_own _ rfl _ _ 33 rfl (wr.heap.size + 1) 67 i0 _ 2 Tryz.underlying33 hi0 hz0'.out hz1'.out .i64 .i64 _ (s.vs[i].cs.length + 2) rfl rfl (by first | rfl | omega | simp) (by rw [hz2'.out]; omega) (by unfold maxLen; omega) (HI1.out.size) ?_; intro w6 hown hgr))
    go_meet
    exact ⟨_, rfl, HI1.out.size, HI1.out.below (bel_gn hgr), own_belG HO1.out (bel_gn hgr), hown⟩
   case rest =>
   obtain ⟨gc, rfl, Hgc, HI2, HO2, HP2⟩ := hcut
   clear HI1 HO1
   go_upto_region 12 with fail
   go_cut [] from 58 to 64 (fun W => Hid (Ci wr s.vs[i] (.slice (some ⟨gl, 0, none⟩) s.vs[i].d.labels.length (s.vs[i].d.labels.length + 2)) (.slice ca s.vs[i].cs.length cc) W) ∧ Hid (OwnF (wr.heap.size + 1) (.slice (some ⟨gl, 0, none⟩) s.vs[i].d.labels.length (s.vs[i].d.labels.length + 2)) s.vs[i].d.labels W) ∧ Hid (W.ownsRow (wr.heap.size + 1) 67 2 (.slice (some ⟨gc, 0, none⟩) 0 (s.vs[i].cs.length + 2)) 0 []))
   case first =>
    obtain ⟨k0, k1, k2, k3, k4, k5, k6, k7, k8, k9, k10⟩ := eleven_cells (hid_of HI2.out.g5)
    have HSr := hid_of (HL.out.below HI2.out.bl).src
    go_wp2_with (first
     | (at_builtin; refine wpList_append_F _ rfl _ _ rfl (wr.heap.size + 1) gl s.vs[i].d.labels rfl HO2.out la lc rfl HSr.out.1 HSr.out.2 ?_; intro w6 hown hgr; have hI6 := HI2.out.grow hgr Hgl.out; have f3 := hid_fr (hid_of hI6.g5) 3; obtain ⟨y0, y1, y2, y3, y4, y5, y6, y7, y8, y9, y10⟩ := eleven_cells (hid_of hI6.g5)))
    go_meet
    refine ⟨hI6.set3, hown.keep (fun q => own_set q (own_ne q (Nat.lt_succ_self _)) _), ?_⟩
    have hk := World.ownsRow.kept HP2.out hgr (own_apart HP2.out HO2.out (by decide))
    exact own_set hk (own_ne hk (Nat.lt_succ_self _)) _
   case rest =>
   obtain ⟨HI3, HO3, HP3⟩ := hcut
   clear HI2 HO2 HP2
   go_upto_region 13 with fail
   go_cut [] from 65 to 69 (fun W => Hid (Ci wr s.vs[i] (.slice (some ⟨gl, 0, none⟩) s.vs[i].d.labels.length (s.vs[i].d.labels.length + 2)) (.slice (some ⟨gc, 0, none⟩) s.vs[i].cs.length (s.vs[i].cs.length + 2)) W) ∧ Hid (OwnF (wr.heap.size + 1) (.slice (some ⟨gl, 0, none⟩) s.vs[i].d.labels.length (s.vs[i].d.labels.length + 2)) s.vs[i].d.labels W) ∧ Hid (OwnC (wr.heap.size + 1) (.slice (some ⟨gc, 0, none⟩) s.vs[i].cs.length (s.vs[i].cs.length + 2)) s.vs[i].cs W))
   case first =>
    obtain ⟨k0, k1, k2, k3, k4, k5, k6, k7, k8, k9, k10⟩ := eleven_cells (hid_of HI3.out.g5)
    obtain ⟨i0, hi0, hz0, hz1, hz2⟩ := info_parts infoC
    have hz1' := hid_of hz1
    clear hz0 hz1 hz2
    have HSr := hid_of (HCn.out.below HI3.out.bl).src
    go_wp2_with (first
     | (at_builtin; refine wpList_append_fits_any _ rfl _ _ 33 rfl (wr.heap.size + 1) 67 i0 2 Tryz.underlying33 hi0 hz1'.out gc 0 (s.vs[i].cs.length + 2) [] rfl HP3.out ca s.vs[i].cs.length cc (fl s.vs[i].cs) rfl (fl_length _) HSr.out.1 HSr.out.2 (fl_one _) (by omega) ?_; intro w6 hown hgr; have hI6 := HI3.out.grow hgr Hgc.out; have f6 := hid_fr (hid_of hI6.g5) 6; obtain ⟨y0, y1, y2, y3, y4, y5, y6, y7, y8, y9, y10⟩ := eleven_cells (hid_of hI6.g5)))
    go_meet
    rw [Nat.zero_add, List.nil_append] at hown
    exact ⟨hI6.set6, HO3.out.keep (fun q => by have hk := World.ownsRow.kept q hgr (own_apart q HP3.out (by decide)); exact own_set hk (own_ne hk (Nat.lt_succ_self _)) _), own_set hown (own_ne hown (Nat.lt_succ_self _)) _⟩
   case rest =>
   obtain ⟨HI4, HO4, HP4⟩ := hcut
   clear HI3 HO3 HP3 Hgl Hgc HL HCn
   go_upto_region 14 with fail
   obtain ⟨av, gv, cpv, rfl, -⟩ := own_slice HC.out.own
   obtain ⟨c0, c1, c2, _, _, _⟩ := three_cells (hkN HC.out.g3 HI4.out.bl)
   obtain ⟨k0, k1, k2, k3, k4, k5, k6, k7, k8, k9, k10⟩ := eleven_cells (hid_of HI4.out.g5)
   have HJl : Hid (J.length ≤ 1048576) := by
    have := congrArg List.length HJ.out
    rw [List.length_map, List.length_take] at this
    unfold Hid
    omega
   go_wp2_with (first
    | (at_builtin; refine wpList_kc rfl _ _ rfl rfl HC.out (bt HI4.out.bl (bel1 _ _)) HJl.out _ rfl (s.vs[i], .slice (some ⟨gl, 0, none⟩) s.vs[i].d.labels.length (s.vs[i].d.labels.length + 2), .slice (some ⟨gc, 0, none⟩) s.vs[i].cs.length (s.vs[i].cs.length + 2)) ((HO4.out.keep (fun q => own_belG q (bel1 _ _))).le (Nat.le_succ _)) (own_leG (own_belG HP4.out (bel1 _ _)) (Nat.le_succ _)) (new_1 _ _) ?_; intro v8 w8 hown8 hg8; obtain ⟨a8, g8, n8, rfl, -⟩ := own_slice hown8; obtain ⟨y0, y1, y2, f0, f1, f2⟩ := three_cells (HC.out.block (bt HI4.out.bl (bel1 _ _)) hg8 (by omega) HC.out.g3)))
   refine ⟨⟨i + 1, .slice a8 (J.length + 1) n8, J ++ [(s.vs[i], .slice (some ⟨gl, 0, none⟩) s.vs[i].d.labels.length (s.vs[i].d.labels.length + 2), .slice (some ⟨gc, 0, none⟩) s.vs[i].cs.length (s.vs[i].cs.length + 2))], by omega, by go_num, ?_, ?_⟩, by simp [intOf]; omega⟩
   ·unfold Hid
    rw [List.map_append, HJ.out, List.take_succ_eq_append_getElem hlt]
    rfl
   ·exact HC.out.push (bt HI4.out.bl (bel1 _ _)) ((HO4.out.keep (fun q => own_belG q (bel1 _ _))).le (Nat.le_succ _)) (own_leG (own_belG HP4.out (bel1 _ _)) (Nat.le_succ _)) hown8 hg8
  ·have hlt' : ¬ (i : Int) < (s.vs.length : Int) := by omega
   have HJe : Hid (J.map (·.1) = s.vs) := by
    have := HJ.out
    rw [List.take_of_length_le (by omega)] at this
    exact this
   clear HJ HR HX
   go_wp2_with fail
   exact HK.out _ v J _ rfl rfl rfl rfl HJe.out HC.out
end Go.Proofs.YtlgfgeacphkhnaaGreatDoor
