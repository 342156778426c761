/- THE DOCUMENT's NEW (of layer 14): the walk. Own work of the verifier. -/
import Derived.Test.YtaeapikhhbjlnaaGreatDoorZBL
namespace Go.Proofs.YtaeapikhhbjlnaaGreatDoor
open Go.RowKit

/-- What New tells. -/
def NwQ (st pr : Int) (n p : Nat) (ks : List Int) (w : World) (e : Ending) (w' : World) : Prop := ∃ (sb mb ib capI : Nat) (lv : Value) (Is : List Ins), e = .returned (.pointer (some ⟨sb, 0, none⟩)) ∧ DocW sb mb ib capI (mc0 st pr lv) Is n p (fun j _ _ => frst (ks.getD j 0) (p : Int)) w' ∧ Is.length = ks.length ∧ (∀ j (hj : j < Is.length), ks[j]? = some Is[j].kd) ∧ Below w.heap.size w w' ∧ ∀ x, DBlk sb mb ib Is x → w.heap.size ≤ x
theorem NwI.fin {mb n p : Nat} {ks : List Int} {w wr : World} (h : NwI mb n p ks w ks.length wr) : NwQ (n : Int) (p : Int) n p ks w (.returned (.pointer (some ⟨wr.heap.size, 0, none⟩))) (wr.alloc (.cells #[.pointer (some ⟨mb, 0, none⟩)] 135)) := by
  obtain ⟨lv, Is, hl, hm, ho, hI, hd⟩ := h.ex
  have hs := h.bel.size
  have hb := bel1 wr (.cells #[.pointer (some ⟨mb, 0, none⟩)] 135)
  have hml := (Array.getElem?_eq_some_iff.1 hm).1
  have hbw := h.bel.trans (hb.mono hs)
  have hge : ∀ j (hj : j < Is.length) x, Is[j].Blk x → w.heap.size ≤ x := fun j hj => (hI j hj).2.2
  have hins : ∀ j (hj : j < Is.length), InsW Is[j] n (wdF Is[j].kd p) (fun _ _ => frst (ks.getD j 0) (p : Int)) (wr.alloc (.cells #[.pointer (some ⟨mb, 0, none⟩)] 135)) := fun j hj => by
    obtain ⟨q1, q2, _⟩ := hI j hj
    have e : ks.getD j 0 = Is[j].kd := by simp [List.getD, q1]
    rw [e]
    exact q2.chg (S := fun _ => False) (Chg.of_below hb) (fun _ _ k => k)
  rcases ho.2 with ⟨k1, k2⟩ | ⟨g, cap, cur, k1, k2, k3, _, _, _, k4⟩
  · have h0 : Is.length = 0 := by omega
    refine ⟨wr.heap.size, mb, 0, 0, lv, Is, rfl, ⟨new_1 wr _, (hb.block mb hml).trans hm, fun q => by omega, fun q => by omega, hins, hd⟩, hl, fun j hj => (hI j hj).1, hbw, fun x hx => ?_⟩
    have := h.ge
    rcases hx with q | q | q | ⟨j, hj, _⟩ <;> omega
  · refine ⟨wr.heap.size, mb, g, cap, lv, Is, rfl, ⟨new_1 wr _, (hb.block mb hml).trans hm, fun _ => by rw [hl]; exact k1, fun _ => ⟨cur, (hb.block g (Array.getElem?_eq_some_iff.1 k3).1).trans k3, fun j hj o ho2 => ?_⟩, hins, hd⟩, hl, fun j hj => (hI j hj).1, hbw, fun x hx => ?_⟩
    · have e := flI_get n Is j hj o ho2
      rw [← k4, List.getElem?_take] at e
      rw [if_pos (by omega)] at e
      rw [← e]
      simp
    · have := h.ge
      rcases hx with q | q | ⟨_, q⟩ | ⟨j, hj, q⟩
      · omega
      · omega
      · omega
      · exact hge j hj x q
theorem fresh_op (n p : Nat) (kd : Int) (hkd : kd = 1 ∨ kd = 2 ∨ kd = 3) (h0 : 0 < n) (hn : n ≤ 16) (W : World) : Calls Tryz.prog 37 #[dsc kd, .int .i64 (n : Int), .int .i64 (p : Int)] W fun e w' => ∃ I : Ins, e = .returned (.agg #[.int .i64 I.kd, .string ⟨#[]⟩, .string ⟨#[]⟩, .slice none 0 0, .slice (some ⟨I.h 0, 0, none⟩) n (I.cap 0), .slice (some ⟨I.h 1, 0, none⟩) n (I.cap 1), .int .i64 0, .int .u64 0, .slice none 0 0, .int .u64 0, .int .u64 0, .int .u64 0, .int .u64 0, .int .u64 0]) ∧ Hid (I.kd = kd ∧ InsW I n (wdF I.kd p) (fun _ _ => frst I.kd (p : Int)) w' ∧ Below W.heap.size W w' ∧ ∀ x, I.Blk x → W.heap.size ≤ x) := by
  refine Calls.mono (fresh_any n kd (p : Int) hn _ rfl W) ?_
  rintro e w' ⟨v, rfl, hQ⟩
  obtain ⟨I, e1, rfl, h1, h2, h3⟩ := fresh_ins h0 hQ
  rw [(RowOk.first (p := p) hkd 0).len, ← e1] at h1
  exact ⟨I, rfl, e1, h1, h2, h3⟩
theorem arr_one (I : Ins) (n : Nat) : ∀ u ∈ (I.arr n).toList, u.oneCell' = true := by
  have := ins_one (kind := I.kd) (x := I.hdr n 0) (y := I.hdr n 1) rfl rfl
  intro u hu
  exact Array.all_eq_true_iff_forall_mem.1 this u (Array.mem_toList_iff.1 hu)
set_option maxRecDepth 10000 in
set_option maxHeartbeats 4000000 in
theorem new14_any (n p : Nat) (h0 : 0 < n) (hn : n ≤ 16) (ks : List Int) (hl : ks.length ≤ 20) (hk : ∀ k ∈ ks, k = 1 ∨ k = 2 ∨ k = 3) (ao : Option Addr) (kb ko cap : Nat) (w : World) (hao : ks ≠ [] → ao = some ⟨kb, ko, none⟩) (hc : ∀ i (hi : i < ks.length), w.cell? ⟨kb, ko + i, none⟩ = some (.int .i64 ks[i])) :
    Calls Tryz.prog 10 #[.slice ao ks.length cap, .int .i64 (n : Int), .int .i64 (p : Int)] w fun e w' => NwQ (n : Int) (p : Int) n p ks w e w' := by
  have HF : Hid (∀ (kd : Int) (W : World), kd = 1 ∨ kd = 2 ∨ kd = 3 → _) := fun kd W hkd => fresh_op n p kd hkd h0 hn W
  have HI0 : Hid (NwI w.heap.size n p ks w 0 (w.alloc (.cells #[.int .i64 (n : Int), .int .i64 (p : Int), .int .i64 0, .int .i64 0, .int .i64 0, .int .i64 0, .int .i64 0, .int .i64 (-9223372036854775808), .int .i64 0, .int .i64 0, .int .i64 0, .slice none 0 0, .slice none 0 0, .int .u64 0] 124))) :=
    ⟨bel1 w _, Nat.le_refl _, .slice none 0 0, [], rfl, new_1 w _, World.ownsRow_nil _ _ _ _, (fun j hj => by simp at hj), (fun a b ha => by simp at ha)⟩
  have HK : Hid (∀ k ∈ ks, k = 1 ∨ k = 2 ∨ k = 3) := hk
  have Hao : Hid (ks ≠ [] → ao = some ⟨kb, ko, none⟩) := hao
  have HC : Hid (∀ i (hi : i < ks.length) (W : World), Below w.heap.size w W → W.cell? ⟨kb, ko + i, none⟩ = some (.int .i64 ks[i])) := fun i hi W hb => (hb.cell (p := ⟨kb, ko + i, none⟩) (lt_of_cell (hc i hi))).trans (hc i hi)
  obtain ⟨i0, hi0, hz0, hz1, hz2⟩ := info_parts infoIns
  clear hc hk hao h0 hn
  go_enter Tryz.func10, Tryz.ntmps10
  go_wp2_with fail
  go_loopw [8] (fun a wr => ∃ i : Nat, i ≤ ks.length ∧ a = .int .i64 (i : Int) ∧ Hid (NwI w.heap.size n p ks w i wr)) (fun a _ => ks.length - (intOf a).toNat)
  case atStart => exact ⟨0, by omega, rfl, HI0.out⟩
  case round =>
    obtain ⟨i, hi, rfl, HI⟩ := hrel
    by_cases hlt : i < ks.length
    · have hlt' : (i : Int) < (ks.length : Int) := by omega
      obtain rfl := Hao.out (by intro e; rw [e] at hlt; simp at hlt)
      obtain ⟨lv, Is, Hl, HM, HO, HA⟩ := nwi_ex HI
      have hkc := HC.out i hlt wr HI.out.bel
      have hki : ks[i]? = some ks[i] := by simp [hlt]
      have hk3 := HK.out _ (List.getElem_mem hlt)
      have HFi : Hid (∀ W : World, _) := fun W => HF.out ks[i] W hk3
      have hm11 : wr.cell? ⟨w.heap.size, 11, none⟩ = some lv := by simp [World.cell?, HM.out, Mc.arr, mc0]
      have HX : Hid (∀ (w1 : World) (I : Ins), Below wr.heap.size wr w1 → (I.kd = ks[i] ∧ InsW I n (wdF I.kd p) (fun _ _ => frst I.kd (p : Int)) w1 ∧ ∀ x, I.Blk x → wr.heap.size ≤ x) → w1.cell? ⟨w.heap.size, 11, none⟩ = some lv ∧ w1.cell? ⟨kb, ko + i, none⟩ = some (.int .i64 ks[i]) ∧ (∀ ob, (w1.alloc ob).cell? ⟨w.heap.size, 11, none⟩ = some lv) ∧ (∀ ob, (w1.alloc ob).cell? ⟨kb, ko + i, none⟩ = some (.int .i64 ks[i])) ∧ Hid (∀ ob, (w1.alloc ob).ownsRow w.heap.size 132 14 lv i (flI n Is)) ∧ Hid (w.heap.size ≤ w1.heap.size) ∧ Hid (∀ (w2 : World) (g cap : Nat) (ob : Obj), w2.ownsRow w.heap.size 132 14 (.slice (some ⟨g, 0, none⟩) (i + 1) cap) (i + 1) (flI n Is ++ (I.arr n).toList) → (w1.alloc ob).grownBy w2 lv.ownBlock → w2.cell? ⟨w.heap.size, 11, none⟩ = some lv ∧ w2.frozen? ⟨w.heap.size, 11, none⟩ = false ∧ Hid (NwI w.heap.size n p ks w (i + 1) (w2.setCell ⟨w.heap.size, 11, none⟩ (.slice (some ⟨g, 0, none⟩) (i + 1) cap))))) := fun w1 I hb hI => by
        have c1 := (hb.cell (p := ⟨w.heap.size, 11, none⟩) (lt_of_cell hm11)).trans hm11
        have c2 := HC.out i hlt w1 (HI.out.bel.trans (hb.mono HI.out.bel.size))
        refine ⟨c1, c2, fun ob => ((bel1 w1 ob).cell (p := ⟨w.heap.size, 11, none⟩) (lt_of_cell c1)).trans c1, fun ob => ((bel1 w1 ob).cell (p := ⟨kb, ko + i, none⟩) (lt_of_cell c2)).trans c2, fun ob => Chg.row (Chg.of_below (S := fun _ => False) (hb.trans ((bel1 w1 ob).mono hb.size))) HO.out (fun _ _ k => k), Nat.le_trans HI.out.bel.size hb.size, fun w2 g cap ob h1 h2 => ?_⟩
        obtain ⟨q1, q2⟩ := HI.out.next (o := ob) Hl.out HM.out HO.out HA.out (by rw [hki, hI.1]) hb hI.2.1 hI.2.2 h1 h2
        exact ⟨by simp [World.cell?, q1, Mc.arr, mc0], by simp [World.frozen?, q1], q2⟩
      have Hil : Hid (i < 20) := Nat.lt_of_lt_of_le hlt hl
      clear Hl HM HO HA hki hk3
      generalize ks[i] = kd at *
      go_wp2_with fail
      go_region_law
        (first
          | (rw [if_pos (by simp [Region.wanted])]; go_simp; with_reducible refine Calls.mono (HFi.out _) ?_; rintro e w1 ⟨I, rfl, H1⟩; obtain ⟨x1, x2, x3, x4, HOw, HSz, HNx⟩ := HX.out w1 I (below_undrew H1.out.2.2.1) ⟨H1.out.1, H1.out.2.1, fun x hx => le_undrew (H1.out.2.2.2 x hx)⟩; simp only [])
          | (refine step_append_lies _ (by rfl) _ _ 121 (by rfl) w.heap.size 132 i0 (.agg (insA 0 (.slice none 0 0) (.slice none 0 0))) 14 192 Tryz.underlying121 hi0 hz0 hz1 hz2 rfl (by decide) lv i (flI n Is) (by rfl) (HOw.out _) ⟨w1.heap.size, 0, none⟩ 1 1 (I.arr n).toList (by rfl) rfl (World.news_of_block (cs := I.arr n) (new_1 w1 _)) (arr_one I n) (by decide) (by have := Hil.out; unfold maxLen; omega) (by have := Hil.out; omega) (by have := HSz.out; simp; omega) (w1.heap.size + 1) (by simp) ?_; intro g cap2 w2 hown hgr hat hgl; obtain ⟨y1, y2, HN2⟩ := HNx.out w2 g cap2 _ hown hgr))
      all_goals
        go_wp2_with fail
        exact ⟨⟨i + 1, by omega, by simp, HN2.out⟩, by simp [intOf]; omega⟩
    · obtain rfl : i = ks.length := by omega
      have hlt' : ¬ (ks.length : Int) < (ks.length : Int) := by omega
      have HQ := hid_of HI.out.fin
      go_wp2_with fail
      go_ret
      exact HQ.out
end Go.Proofs.YtaeapikhhbjlnaaGreatDoor
