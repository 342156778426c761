/- Merge, the code's. Own work of the verifier. -/
import Derived.Test.YtgkdggcpplmnaaaGreatZAR
import Derived.Test.YtgkdggcpplmnaaaGreatZAK
namespace Go.Proofs.YtgkdggcpplmnaaaGreat
open Go.RowKit Go.Shelf

theorem key_all {M : List Cn} {x : Int} (h : ∀ c ∈ M, c.1 = x) : key M x = sumN M := by
  induction M with
  | nil => rfl
  | cons c M ih =>
    simp only [key]
    rw [if_pos (h c (by simp)), ih (fun d hd => h d (by simp [hd]))]
    simp [sumN]
/-- A run of a sorted list's rest. -/
theorem run_group {S : List Cn} {i k : Nat} (hi : i < S.length) (hR : RunIs (S.drop i) k) (hc : Cut S i) : i < i + k ∧ i + k ≤ S.length ∧ Run S i (i + k) S[i].1 ∧ (∀ h : i + k < S.length, S[i + k].1 ≠ S[i].1) ∧ tot ((S.drop i).take k) = key (S.take (i + k)) S[i].1 % 18446744073709551616 := by
  have h0 : ((S.drop i).getD 0 (0, 0)).1 = S[i].1 := by simp [List.getD, hi]
  have hl : k ≤ S.length - i := by have := hR.le; rwa [List.length_drop] at this
  have hrun : Run S i (i + k) S[i].1 := fun t ht h1 h2 => by
    have := hR.same (t - i) (by rw [List.length_drop]; omega) (by omega)
    rw [h0, List.getElem_drop] at this
    rw [← this]; congr 2; omega
  refine ⟨by have := hR.pos; omega, by omega, hrun, fun h => ?_, ?_⟩
  · have := hR.stop (by rw [List.length_drop]; omega)
    rw [h0, List.getElem_drop] at this
    exact this
  · have e1 : S.take (i + k) = S.take i ++ (S.drop i).take k := by rw [List.take_add]
    rw [e1, key_append]
    have e2 := key_cut hc hi rfl
    have e3 : key ((S.drop i).take k) S[i].1 = sumN ((S.drop i).take k) := key_all fun c hcm => by
      obtain ⟨t, ht, rfl⟩ := List.getElem_of_mem hcm
      rw [List.length_take, List.length_drop] at ht
      rw [List.getElem_take, List.getElem_drop]
      exact hrun (i + t) (by omega) (by omega) (by omega)
    rw [e3]
    show sumN ((S.drop i).take k) % 18446744073709551616 = _
    omega
theorem GC.keep {B : Nat} {W0 w w' : World} {v : Value} {xs : List Cn} (h : GC B W0 v xs w) (hb : Below w.heap.size w w') : GC B W0 v xs w' := by
  refine ⟨⟨h.own.1, ?_⟩, h.below.trans (hb.mono h.size), by have := hb.size; have := h.size; omega⟩
  rcases h.own.2 with k | ⟨g, cap, cur, hv, hB, hh, hrest⟩
  · exact Or.inl k
  · exact Or.inr ⟨g, cap, cur, hv, hB, (hb.block g (Array.getElem?_eq_some_iff.1 hh).1).trans hh, hrest⟩
theorem Hid.keepG {B : Nat} {W0 w w' : World} {v : Value} {xs : List Cn} (h : Hid (GC B W0 v xs w)) (hb : Below w.heap.size w w') : Hid (GC B W0 v xs w') := GC.keep h hb
set_option maxRecDepth 10000 in
set_option maxHeartbeats 4000000 in
theorem cmerge_any (w : World) (v v' : Value) (A C : List Cn) (hA : SN w v A) (hC : SN w v' C) (hW : Wc (A ++ C)) (hlA : A.length ≤ 1048576) (hlC : C.length ≤ 1048576) :
    Calls Tryz.prog 84 #[v, v'] w fun e w' => Md w (A ++ C) e w' := by
  obtain ⟨i0, hi, hz0, hz1, hz2⟩ := info_parts infoC
  obtain ⟨ao, b, o, cap, hv, _⟩ := hA.sc
  obtain ⟨ao', b', o', cap', hv', _⟩ := hC.sc
  subst hv hv'
  have hb0 : Below w.heap.size w (w.alloc (.cells #[.slice ao A.length cap, .slice ao' C.length cap'] 43)) := (Below.refl _ _).alloc (Nat.le_refl _) _
  have hn := new_1 w (.cells #[.slice ao A.length cap, .slice ao' C.length cap'] 43)
  have HCc : Hid (∀ _ : Unit, _) := fun _ => concat_any w.heap.size _ _ A C hlA hlC _ (cell_0 hn) (cell_1 hn) (hA.below hb0) (hC.below hb0)
  have HB0 : Hid _ := hb0
  clear hb0 hn hA hC
  go_enter Tryz.func84, Tryz.ntmps84
  go_wp2_with (first
    | (go_at_call 100; refine (HCc.out ()).mono ?_; rintro e w1 ⟨m, rfl, hg1⟩)
    | (go_at_call 101; refine (sort_gc hg1 (by rw [List.length_append]; omega)).mono ?_; rintro e w2 ⟨rfl, S, hs2, hp2, hsn2, hb2⟩))
  have HS : Hid (Srt S) := hs2
  have HP : Hid (S.Perm (A ++ C)) := hp2
  have hSl : S.length ≤ 2097152 := by rw [hp2.length_eq, List.length_append]; omega
  have HB2 : Hid (Below w.heap.size w w2) := HB0.out.trans (hb2.mono (by simp))
  have hWS : Wc S := fun c hc => hW c (hp2.mem_iff.1 hc)
  have HWS : Hid _ := hWS
  obtain ⟨ao3, b3, o3, c3, hm3, hao3, hr3, hc3⟩ : ∃ ao3 b3 o3 c3, m = .slice ao3 S.length c3 ∧ (S ≠ [] → ao3 = some ⟨b3, o3, none⟩) ∧ RowC w2 b3 o3 S ∧ S.length ≤ c3 := by
    exact hsn2.sc2
  subst hm3
  have HR3 : Hid (RowC w2 b3 o3 S) := hr3
  clear hs2 hp2 hb2 hWS hsn2 hr3 hg1
  go_loopw [5, 6] (fun a v wr => ∃ (i : Nat) (O : List Cn) (aa : Option Addr) (ca : Nat), i ≤ S.length ∧ a = .slice aa (S.length - i) ca ∧ S.length - i ≤ ca ∧ (i < S.length → aa = some ⟨b3, o3 + i * 2, none⟩) ∧ Hid (GC w2.heap.size w2 v O wr) ∧ Hid (IsMerge O (S.take i) ∧ (∀ c ∈ O, ∀ d ∈ S.drop i, c.1 < d.1) ∧ Cut S i) ∧ O.length ≤ i) (fun a _ _ => slen a)
  case atStart => exact ⟨0, [], ao3, c3, by omega, rfl, by omega, fun h => by rw [hao3 (by intro e; rw [e] at h; simp at h)]; rfl, ⟨own_nil _ _, Below.refl _ _, Nat.le_refl _⟩, ⟨isMerge_nil, (fun c hc => by cases hc), cut_zero S⟩, by simp⟩
  case round =>
    obtain ⟨i, O, aa, ca, hil, rfl, hca, haa, hG, hM, hOl⟩ := hrel
    by_cases hlt : i < S.length
    · obtain rfl := haa hlt
      have hbw : Below w2.heap.size w2 wr := hG.out.below
      have hrw := (HR3.out.below hbw (fun k => HR3.out.lt k)).drop i
      have hln : (S.drop i).length = S.length - i := List.length_drop
      have hpos : (0 : Int) < ((S.length - i : Nat) : Int) := by omega
      have hne : S.drop i ≠ [] := fun e => by rw [e] at hln; simp at hln; omega
      have q0 := (hrw 0 (by rw [hln]; omega)).1
      rw [show (S.drop i)[0].1 = S[i].1 by simp] at q0
      have HRun : Hid (∀ _ : Unit, _) := fun _ => run_any b3 (o3 + i * 2) ca (S.drop i) hne (by rw [hln]; omega) wr hrw
      rw [hln] at HRun
      have HT : Hid (∀ k W, k ≤ S.length - i → Below wr.heap.size wr W → Calls Tryz.prog 74 #[.slice (some ⟨b3, o3 + i * 2, none⟩) k ca] W fun e w' => e = .returned (.int .u64 (tot ((S.drop i).take k) : Nat)) ∧ Below W.heap.size W w') := fun k W hk hb => by
        have hk2 : ((S.drop i).take k).length = k := by rw [List.length_take, hln]; omega
        have := total_any W (.slice (some ⟨b3, o3 + i * 2, none⟩) ((S.drop i).take k).length ca) ((S.drop i).take k) (Or.inr ⟨⟨b3, o3 + i * 2, none⟩, ca, rfl, by omega, ((hrw.below hb (fun k => hrw.lt k)).take k).cells⟩) (fun c hc => HWS.out c (List.mem_of_mem_drop (List.mem_of_mem_take hc))) (by rw [hk2]; omega)
        rw [hk2] at this
        exact this
      have HGr : Hid (∀ k, RunIs (S.drop i) k → _) := fun k hk => run_group hlt hk hM.out.2.2
      have Hq : Hid (∀ W, Below wr.heap.size wr W → W.cell? ⟨b3, o3 + i * 2, none⟩ = some (.int .i64 S[i].1)) := fun W hb => (hb.cell (p := ⟨b3, o3 + i * 2, none⟩) (lt_of_cell (by simpa using q0))).trans (by simpa using q0)
      clear hrw hbw hne q0 haa
      obtain ⟨x, hx⟩ : ∃ x, x = S[i].1 := ⟨_, rfl⟩
      rw [← hx] at Hq
      simp only [← hx] at HGr
      clear hx
      go_upto_region 6 with (go_at_call 104; refine (HRun.out ()).mono ?_; rintro e w3 ⟨k, rfl, hk, hb3⟩)
      obtain ⟨g1, g2, g3, g4, g5⟩ := HGr.out k hk
      have HCut : Hid (Cut S (i + k)) := cut_next HS.out g1 g2 hM.out.2.2 g3 g4
      have HMn : Hid (IsMerge (if tot ((S.drop i).take k) ≠ 0 then O ++ [(x, tot ((S.drop i).take k))] else O) (S.take (i + k))) := group_merge g1 g2 hM.out.1 hM.out.2.1 g3 g5
      have HMl : Hid (∀ c ∈ (if tot ((S.drop i).take k) ≠ 0 then O ++ [(x, tot ((S.drop i).take k))] else O), ∀ d ∈ S.drop (i + k), c.1 < d.1) := group_less g1 g2 hM.out.2.1 g3 HCut.out
      have HTk : Hid (∀ W, Below wr.heap.size wr W → _) := fun W hb => HT.out k W (by omega) hb
      have hNl : tot ((S.drop i).take k) < 18446744073709551616 := Nat.mod_lt _ (by decide)
      have hk1 := hk.pos
      have e1 : (0 : Int) ≤ (k : Int) := by omega
      have hkn : k ≤ S.length - i := by omega
      have hkc : k ≤ ca := by omega
      have HEnd : Hid (S.length - i - k = S.length - (i + k)) := Nat.sub_sub _ _ _
      have hG3 := hG.out.keep hb3
      have HG3 : Hid _ := hG3
      have HB3 : Hid _ := hb3
      have Hx3 : Hid _ := Hq.out w3 hb3
      clear HT HGr HRun g3 g4 g5 hk hG3 hb3 hG Hq
      generalize tot ((S.drop i).take k) = N at *
      generalize hn : S.length - i = n at *
      have Hn : Hid _ := hn
      clear hn
      by_cases hN0 : N = 0
      · have t1 : ((N : Int) != 0) = false := by rw [bne_eq_false_iff_eq]; omega
        rw [if_neg (by omega)] at HMn HMl
        by_cases hkk : k = ca
        · have HL : Hid (S.length - (i + k) = 0) := by have := HEnd.out; unfold Hid; omega
          have hkk' : ca = k := hkk.symm
          subst hkk
          go_wp2_with (go_at_call 74; with_reducible refine (HTk.out _ HB3.out).mono ?_; rintro e w4 ⟨rfl, hb4⟩; have hG4 := Hid.keepG HG3 hb4; have x4 := keep_0 hb4 Hx3.out)
          exact ⟨⟨i + k, O, _, _, g2, by rw [HL.out], by rw [HL.out]; exact Nat.zero_le _, fun h => by have := HL.out; omega, hG4, ⟨HMn.out, HMl.out, HCut.out⟩, by omega⟩, by have := Hn.out; simp [slen]; omega⟩
        · have hkk' : ¬ (ca : Int) = (k : Int) := by omega
          have hkk2 : ¬ ca = k := by omega
          go_wp2_with (go_at_call 74; with_reducible refine (HTk.out _ HB3.out).mono ?_; rintro e w4 ⟨rfl, hb4⟩; have hG4 := Hid.keepG HG3 hb4; have x4 := keep_0 hb4 Hx3.out)
          exact ⟨⟨i + k, O, _, _, g2, by rw [← HEnd.out], by have := HEnd.out; omega, fun _ => by first | rfl | (congr 2; omega) | (simp; omega), hG4, ⟨HMn.out, HMl.out, HCut.out⟩, by omega⟩, by have := Hn.out; simp [slen]; omega⟩
      · have t1 : ((N : Int) != 0) = true := by rw [bne_iff_ne]; omega
        rw [if_pos hN0] at HMn HMl
        by_cases hkk : k = ca
        · have HL : Hid (S.length - (i + k) = 0) := by have := HEnd.out; unfold Hid; omega
          have hkk' : ca = k := hkk.symm
          subst hkk
          go_wp2_with (first
            | (go_at_call 74; with_reducible refine (HTk.out _ HB3.out).mono ?_; rintro e w4 ⟨rfl, hb4⟩; have hG4 := Hid.keepG HG3 hb4; have x4 := keep_0 hb4 Hx3.out)
            | (at_builtin; refine wpList_append_own _ rfl _ _ 43 rfl w2.heap.size 124 i0 (.agg #[.int .i64 0, .int .u64 0]) 2 16 Tryz.underlying43 hi hz0 hz1 hz2 rfl (by decide) _ _ _ rfl (hG4.out.own.alloc _) ⟨_, 0, none⟩ 1 1 [_, _] rfl rfl (cell_two_new _ _ _ _) (two_one x N) (by unfold maxLen; omega) (by omega) (by have := hG4.out.size; simp; omega) ?_; intro v5 w5 hown hgrow hnil; have hg5 := hG4.out.push (x, N) _ hown hgrow; clear hown hgrow hnil))
          exact ⟨⟨i + k, O ++ [(x, N)], _, _, g2, by rw [HL.out], by rw [HL.out]; exact Nat.zero_le _, fun h => by have := HL.out; omega, hg5, ⟨HMn.out, HMl.out, HCut.out⟩, by rw [List.length_append, List.length_singleton]; omega⟩, by have := Hn.out; simp [slen]; omega⟩
        · have hkk' : ¬ (ca : Int) = (k : Int) := by omega
          have hkk2 : ¬ ca = k := by omega
          go_wp2_with (first
            | (go_at_call 74; with_reducible refine (HTk.out _ HB3.out).mono ?_; rintro e w4 ⟨rfl, hb4⟩; have hG4 := Hid.keepG HG3 hb4; have x4 := keep_0 hb4 Hx3.out)
            | (at_builtin; refine wpList_append_own _ rfl _ _ 43 rfl w2.heap.size 124 i0 (.agg #[.int .i64 0, .int .u64 0]) 2 16 Tryz.underlying43 hi hz0 hz1 hz2 rfl (by decide) _ _ _ rfl (hG4.out.own.alloc _) ⟨_, 0, none⟩ 1 1 [_, _] rfl rfl (cell_two_new _ _ _ _) (two_one x N) (by unfold maxLen; omega) (by omega) (by have := hG4.out.size; simp; omega) ?_; intro v5 w5 hown hgrow hnil; have hg5 := hG4.out.push (x, N) _ hown hgrow; clear hown hgrow hnil))
          exact ⟨⟨i + k, O ++ [(x, N)], _, _, g2, by rw [← HEnd.out], by have := HEnd.out; omega, fun _ => by first | rfl | (congr 2; omega) | (simp; omega), hg5, ⟨HMn.out, HMl.out, HCut.out⟩, by rw [List.length_append, List.length_singleton]; omega⟩, by have := Hn.out; simp [slen]; omega⟩
    · obtain rfl : i = S.length := by omega
      have HMn : Hid (IsMerge O (A ++ C)) := by
        have := hM.out.1
        rw [List.take_length] at this
        exact this.perm HP.out
      have hz : ¬ (0 : Int) < ((S.length - S.length : Nat) : Int) := by omega
      go_wp2_with fail
      go_ret
      exact ⟨_, O, rfl, HMn.out, hG.out.rebase HB2.out⟩
end Go.Proofs.YtgkdggcpplmnaaaGreat
