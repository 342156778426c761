/- awake; ExpoNames' walk. Own work of the verifier. -/
import Derived.Test.YtlgfgeacphkhnaaGreatDoorWBH
namespace Go.Proofs.YtlgfgeacphkhnaaGreatDoor
open Go.RowKit Me

def ctL (x : Vl) : List (List UInt8) := [seT x.d [] [] (Lib.itoa x.t)]
theorem wrt_counter (u : World) (pb : Nat) (p : Int) (vl : Vl → List (List UInt8)) (x : Vl) (ht : Wi.Tab u) (hk : x.d.kind = 1) (hs : Sho x.d []) (hx : VW x) (hv : vl x = ctL x) : Wrt u pb p vl x := by
 intro T lv cv w h hl hc hT
 have hkf : kfn x.d.kind = 59 := by rw [hk]; rfl
 rw [hkf, hv, ctL, wrL_one]
 exact counter_any u pb p T x lv cv w h ht hl hc hs hx hT
def xA : Vl := ⟨⟨1, [97], [], []⟩, 7, [], 0, 0, 0, 0⟩
def sA : Sn := ⟨1, [xA], 0⟩
def sZ : Sn := ⟨0, [], 0⟩
theorem chk_A : (chkS sA).1 = 0 := by
 have h1 : La.chkD xA.d = 0 := by
  have e1 : La.nameB [97] = true := by decide
  have e2 : La.txE [] = 0 := by unfold La.txE; rw [La.utfB]; rfl
  unfold La.chkD xA
  simp [e1, e2, La.chkL]
 have h2 : holdB 1 xA = true := by
  unfold holdB
  rw [if_pos (by decide)]
  decide
 unfold chkS sA
 rw [if_neg (by decide), if_neg (by decide)]
 simp only [chkV, chk1, h1, h2]
 simp
theorem chk_Z : (chkS sZ).1 = 1 := by
 unfold chkS sZ
 rw [if_pos (by decide)]
theorem sho_A : Sho xA.d [] := ⟨by decide, by decide, by decide, fun a ha => by simp [xA] at ha⟩
theorem vw_A : VW xA := ⟨⟨by decide, by decide⟩, (fun c hc => by cases hc), by decide, by decide, by decide, by decide, by decide, ⟨by decide, by decide, fun a ha => by cases ha⟩⟩
abbrev txA : List UInt8 := [35, 32, 103, 110, 111, 109, 111, 110, 32, 49, 10, 35, 32, 114, 101, 102, 117, 115, 101, 100, 32, 48, 10, 35, 32, 72, 69, 76, 80, 32, 97, 32, 10, 35, 32, 84, 89, 80, 69, 32, 97, 32, 99, 111, 117, 110, 116, 101, 114, 10, 97, 32, 55, 10]
theorem itoa_small (n : Nat) (h : n < 10) : Lib.itoa (n : Int) = [UInt8.ofNat (48 + n)] := by
 unfold Lib.itoa
 rw [if_neg (by omega)]
 simpa using Wi.dec_small h
theorem text_A (vl : Vl → List (List UInt8)) (hv : vl xA = ctL xA) : (exL vl sA).flatten = txA := by
 have e1 : Lib.itoa 1 = [49] := itoa_small 1 (by decide)
 have e7 : Lib.itoa 7 = [55] := itoa_small 7 (by decide)
 have e0 : Lib.decDigits 0 = [48] := Wi.dec_small (by decide)
 have hq : vl xA = [[97, 32, 55, 10]] := by
  rw [hv]
  simp only [ctL, seT, lnT, xA, e7]
  rfl
 unfold exL sA
 simp only [vsL, hq, gnT, reT, heT, tyT, lnT, e1, e0]
 rfl
theorem wrL_fits {A : List (List UInt8)} (h : A.flatten.length ≤ 4194304) : (wrL [] A).2 = true := by
 rw [wrL_all]
 right
 unfold fitB
 rw [List.nil_append, decide_eq_true_eq]
 omega
theorem snw_A : SnW sA := ⟨fun x hx => by
 obtain rfl : x = xA := by simpa [sA] using hx
 exact vw_A, by decide⟩
theorem snw_Z : SnW sZ := ⟨fun x hx => (by cases hx), by decide⟩
set_option maxRecDepth 100000 in
theorem conv_own {W : World} {B : Nat} {ao : Option Addr} {cap : Nat} {l : List UInt8} (h : W.ownsRow B 5 1 (.slice ao l.length cap) l.length (Lib.byteCells l)) : (convert 41 9 (.slice ao l.length cap)).run Tryz.prog W = .ok (.string ⟨l.toArray⟩) W := by
 rcases h.2 with ⟨k, k2⟩ | ⟨g, c, cur, k, _⟩
 ·have e : l = [] := List.length_eq_zero_iff.1 k2
  subst e
  injection k with k1 k3 k4
  subst k1
  simp only [List.length_nil] at k4 ⊢
  subst k4
  rfl
 ·injection k with k1 k3 k4
  subst k1
  refine run_convert_bytes_back W 41 9 5 ⟨g, 0, none⟩ cap l Tryz.underlying41 Tryz.underlying5 Tryz.underlying9 (fun j hj => ?_)
  refine h.cells (g := g) rfl j _ ?_
  simp [Lib.byteCells, hj]
set_option maxRecDepth 100000 in
set_option maxHeartbeats 1000000 in
theorem awake_any (w : World) (ht : Wi.Tab w) : Calls Tryz.prog 4 #[] w fun e w' => e = .returned (.bool true) ∧ Below w.heap.size w w' := by
 obtain ⟨W1, hW1⟩ : ∃ W1, W1 = w.alloc (.cells #[.int .i64 1, .string ⟨#[97]⟩, .string ⟨#[]⟩, .slice none 0 0, .int .i64 0, .int .u64 7, .slice none 0 0, .int .u64 0, .float .f64 0, .float .f64 0, .float .f64 0] 36) := ⟨_, rfl⟩
 have hb1 : Below w.heap.size w W1 := by rw [hW1]; exact bel1 w _
 have hN1 : W1.heap[w.heap.size]? = some (.cells (vc xA (.slice none 0 0) (.slice none 0 0)) 36) := by rw [hW1]; exact new_1 w _
 have hat : SnAt W1 sA (.agg #[.int .i64 1, .slice (some ⟨w.heap.size, 0, none⟩) 1 1, .int .u64 0]) := ⟨_, rfl, Or.inr ⟨w.heap.size, 0, 1, rfl, by decide, by omega, fun i hi => by
  obtain rfl : i = 0 := by simpa [sA] using hi
  refine ⟨.slice none 0 0, .slice none 0 0, ?_, Or.inl ⟨rfl, rfl⟩, Or.inl ⟨rfl, rfl⟩⟩
  obtain ⟨h0, h1, h2, h3, h4, h5, h6, h7, h8, h9, ha⟩ := cB_of hN1
  exact ⟨h0, h1, h2, h3, h4, h5, h6, h7, h8, h9, ha⟩⟩⟩
 have HA : La.HidC Tryz.prog 7 #[.agg #[.int .i64 1, .slice (some ⟨w.heap.size, 0, none⟩) 1 1, .int .u64 0]] W1 (fun e w' => ∃ ao cap, e = .returned (.tuple #[.slice ao 54 cap, .int .i64 0]) ∧ (convert 41 9 (.slice ao 54 cap)).run Tryz.prog w' = .ok (.string ⟨txA.toArray⟩) w' ∧ W1.heap.size ≤ w'.heap.size ∧ Below w.heap.size w w' ∧ (∀ W, Below w'.heap.size w' W → (convert 41 9 (.slice ao 54 cap)).run Tryz.prog W = .ok (.string ⟨txA.toArray⟩) W)) := by
  refine Calls.mono (write_any ctL sA _ snw_A W1 hat (ht.below hb1) (fun _ x hx pb => by
   obtain rfl : x = xA := by simpa [sA] using hx
   exact ⟨Or.inl rfl, sho_A, wrt_counter W1 pb sA.p ctL xA (ht.below hb1) rfl sho_A vw_A rfl⟩)) ?_
  rintro e w' ⟨hq, hb⟩
  have htx := text_A ctL rfl
  rcases hq with ⟨k, _⟩ | ⟨_, k, _⟩ | ⟨_, _, ao, cap, k, ho⟩
  ·exact absurd chk_A k
  ·rw [wrL_fits (by rw [htx]; decide)] at k; cases k
  ·rw [htx] at k ho
   exact ⟨ao, cap, k, conv_own ho, hb.size, bt hb1 hb, fun W hbW => conv_own (own_belG ho hbW)⟩
 have HZ : Hid (∀ W, Wi.Tab W → Calls Tryz.prog 7 #[.agg #[.int .i64 0, .slice none 0 0, .int .u64 0]] W fun e w' => e = .returned (.tuple #[.slice none 0 0, .int .i64 1]) ∧ Below W.heap.size W w') := fun W hW => by
  refine Calls.mono (write_any ctL sZ _ snw_Z W ⟨_, rfl, Or.inl ⟨rfl, rfl⟩⟩ hW (fun k => by rw [chk_Z] at k; cases k)) ?_
  rintro e w' ⟨hq, hb⟩
  rcases hq with ⟨_, k⟩ | ⟨k, _⟩ | ⟨k, _⟩
  ·rw [chk_Z] at k; exact ⟨k, hb⟩
  ·rw [chk_Z] at k; cases k
  ·rw [chk_Z] at k; cases k
 have HW1 := hid_of hW1
 have HT := hid_of ht
 clear ht hW1 hb1 hN1 hat
 go_enter Tryz.func4, Tryz.ntmps4
 go_wp2_with fail
 rw [← HW1.out]
 refine (HA.out).mono ?_
 rintro e w2 ⟨ao, cap, rfl, -, -, hb2, hcv⟩
 have HB2 := hid_of hb2
 have HCv := hid_of hcv
 have D : La.HidC _ _ _ _ _ := HZ.out w2 (HT.out.below hb2)
 clear HA HZ HW1 hb2 hcv
 go_wp2_with fail
 refine (D.out).mono ?_
 rintro e w3 ⟨rfl, hb3⟩
 have hc := HCv.out w3 hb3
 have HB3 := hid_of (bt HB2.out hb3)
 clear HCv HB2 hb3 D HT
 go_wp2_with fail
 go_ret
 exact ⟨rfl, HB3.out⟩
end Go.Proofs.YtlgfgeacphkhnaaGreatDoor
