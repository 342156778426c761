/- LabelKeeps: the lists told are written over. Own work of the verifier. -/
import Derived.Test.YtmphajfhilpgeabKF7
namespace Go.Proofs.Ytmphajfhilpgeab
open Go.RowKit
/-- While a list is written over. -/
structure WO (w W1 : World) (A : List Lb) (v : Value) (m : Lb) (p q : Nat) (W : World) : Prop where
  own : W.ownsRow w.heap.size 41 2 v A.length (flL (reps q m) ++ flL (A.drop q))
  grown : W1.grownBy W v.ownBlock
  b0 : W.cell? ⟨p, 0, none⟩ = some (.string ⟨m.1.toArray⟩)
  b1 : W.cell? ⟨p, 1, none⟩ = some (.string ⟨m.2.toArray⟩)
theorem mk0 : Utf8.encode (65 + ((0 : Nat) : Int)) = ⟨(mkN 0).toArray⟩ := by kernel_rfl
theorem mk1 : Utf8.encode (65 + ((1 : Nat) : Int)) = ⟨(mkN 1).toArray⟩ := by kernel_rfl
theorem mk2 : Utf8.encode (65 + ((2 : Nat) : Int)) = ⟨(mkN 2).toArray⟩ := by kernel_rfl
theorem mk_eq (j : Nat) (h : j < 3) : Utf8.encode (65 + (j : Int)) = ⟨(mkN j).toArray⟩ :=
  match j, h with
  | 0, _ => mk0
  | 1, _ => mk1
  | 2, _ => mk2
theorem TM.below {w : World} {A : List Lb} {i : Nat} {told : Value} {Vs : List Value} {W W1 : World} (h : TM w A i told Vs W) (hb : Below W.heap.size W W1) : TM w A i told Vs W1 :=
  ⟨World.ownsRow.kept (row := none) h.row (grown_bel hb) (by cases e : told.ownBlock <;> simp), fun j hj k => (h.own j hj k).below hb, fun j hj k => (h.own' j hj k).below hb, h.apart, h.bl.trans (hb.mono h.bl.size)⟩
theorem over_one (A : List Lb) (m : Lb) (q : Nat) (h : q < A.length) : ((flL (reps q m) ++ flL (A.drop q)).set (q * 2) (.string ⟨m.1.toArray⟩)).set (q * 2 + 1) (.string ⟨m.2.toArray⟩) = flL (reps (q + 1) m) ++ flL (A.drop (q + 1)) := by
  rw [List.drop_eq_getElem_cons h, flL, reps_succ, List.append_assoc]
  rw [List.set_append_right _ _ (by rw [flL_length, reps_len]; omega), List.set_append_right _ _ (by rw [flL_length, reps_len]; omega)]
  rw [flL_length, reps_len, show q * 2 - q * 2 = 0 by omega, show q * 2 + 1 - q * 2 = 1 by omega]
  rfl
theorem own_frozen {W : World} {B : Nat} {e : TypeId} {s g n cap : Nat} {xs : List Value} (h : W.ownsRow B e s (.slice (some ⟨g, 0, none⟩) n cap) n xs) (j : Nat) : W.frozen? ⟨g, j, none⟩ = false := by
  rcases h.2 with ⟨q, _⟩ | ⟨g', cap', cur, q, _, hg, _⟩
  · cases q
  · cases q
    simp [World.frozen?, hg]
theorem WO.step {w W1 : World} {A : List Lb} {b cp : Nat} {m : Lb} {p q : Nat} {W : World} (h : WO w W1 A (.slice (some ⟨b, 0, none⟩) A.length cp) m p q W) (hq : q < A.length) (hne : p ≠ b) : WO w W1 A (.slice (some ⟨b, 0, none⟩) A.length cp) m p (q + 1) ((W.setCell ⟨b, q * 2, none⟩ (.string ⟨m.1.toArray⟩)).setCell ⟨b, q * 2 + 1, none⟩ (.string ⟨m.2.toArray⟩)) := by
  obtain ⟨s1, g1⟩ := h.own.stored (q * 2) (.string ⟨m.1.toArray⟩)
  obtain ⟨s2, g2⟩ := s1.stored (q * 2 + 1) (.string ⟨m.2.toArray⟩)
  rw [over_one A m q hq] at s2
  refine ⟨s2, grown_trans h.grown (grown_trans g1 g2), ?_, ?_⟩
  · rw [World.cell?_setCell_other _ _ _ _ (fun c => by injection c; omega), World.cell?_setCell_other _ _ _ _ (fun c => by injection c; omega)]
    exact h.b0
  · rw [World.cell?_setCell_other _ _ _ _ (fun c => by injection c; omega), World.cell?_setCell_other _ _ _ _ (fun c => by injection c; omega)]
    exact h.b1
theorem AP.curRow {w W1 : World} {v l : Value} {n k : Nat} {m : Lb} {W W2 : World} (h : AP w W1 v l n k m W) (hb : Below W.heap.size W W2) : W2.ownsRow w.heap.size 41 2 l (n + k) (flL (reps (n + k) m)) := by
  have q : OwnL w.heap.size l (reps (n + k) m) W2 := h.cur.below hb
  unfold OwnL at q
  rw [reps_len] at q
  exact q
theorem two_one (a b : ByteArray) : ∀ u ∈ [Value.string a, .string b], u.oneCell' = true := by
  intro u hu
  simp at hu
  rcases hu with rfl | rfl <;> rfl
theorem AP.box {w W1 : World} {v l : Value} {n k : Nat} {m : Lb} {W : World} (h : AP w W1 v l n k m W) {p o : Nat} {x : Value} (hp : W1.cell? ⟨p, o, none⟩ = some x) (hne : v.ownBlock ≠ some p) : W.cell? ⟨p, o, none⟩ = some x :=
  (World.cell?_of_block (h.grown.block p (lt_of_cell hp) (fun e => hne e.symm))).trans hp
set_option maxHeartbeats 16000000 in
set_option maxRecDepth 100000 in
theorem keeps_over (t : List UInt8) (ht : t.length ≤ 140737488351232) (w W : World) (told : Value) (Vs : List Value)
    (u0 u2 u3 u5 u6 u7 u8 u9 u10 u11 u13 u14 u15 u16 u17 u18 u19 u20 u21 u22 u23 u24 u25 u26 u27 u28 u29 u30 u31 u32 u33 u34 u35 u36 u37 u38 u39 u40 u41 u42 u43 u44 u45 u46 u47 u48 u49 u50 u51 u52 u53 u54 u55 u56 u57 u58 u59 u60 u61 u62 u63 u64 u65 u66 u67 u68 u69 u70 u71 u72 u73 u74 u75 u76 u77 u78 u79 u80 u81 u82 u83 u84 u85 u86 u87 u88 u89 u90 u91 u92 u93 u94 u95 u96 u97 u98 u99 u100 u101 u102 u103 u104 u105 u106 u107 u108 u109 u110 u111 u112 u113 u114 u115 u116 u117 u118 u119 u120 u121 u122 u123 u124 u125 u126 u127 u128 u129 u130 u131 u132 u133 u134 u135 u136 u137 u138 u139 u140 u141 u142 u143 u144 u145 u146 u147 u148 u149 u150 u151 u152 u153 u154 u155 u156 u157 u158 u159 u160 u161 u162 u163 u164 u165 u166 u167 u168 u169 u170 u171 u172 u173 u174 u175 u176 u177 u178 u179 u180 u181 u182 u183 u184 u185 u186 u187 u188 u189 u190 u191 u192 u193 u194 u195 u196 u197 u198 u199 u200 u201 u202 : Value) (K1 K2 : Act → World → Prop) (hK1 : ∀ a w1, Code.wp Try.prog (sDrop 16 (bodyC Try.f6.body)) (bodyPost Try.prog Try.f6 fun r w' => r = .returned (.bool true) ∧ Below w.heap.size w w') a w1 → K1 a w1) (hK2 : ∀ a w1, Code.wp Try.prog (sDrop 1 (sFirst (sDrop 15 (bodyC Try.f6.body)))) (Exit.then K1 (bodyPost Try.prog Try.f6 fun r w' => r = .returned (.bool true) ∧ Below w.heap.size w w')) a w1 → K2 a w1) (hV : Vs.length = 3) (hA : (labsOf t).length ≤ 1048576) (HT : TD w (labsOf t) told Vs W) :
    Code.wp Try.prog (sFirst (sFirst (sDrop 15 (bodyC Try.f6.body)))) (Exit.then K2 (Exit.then K1 (bodyPost Try.prog Try.f6 fun r w' => r = .returned (.bool true) ∧ Below w.heap.size w w'))) { tmps := #[u0, (.string ⟨t.toArray⟩), u2, u3, (.bool false), u5, u6, u7, u8, u9, u10, u11, told, u13, u14, u15, u16, u17, u18, u19, u20, u21, u22, u23, u24, u25, u26, u27, u28, u29, u30, u31, u32, u33, u34, u35, u36, u37, u38, u39, u40, u41, u42, u43, u44, u45, u46, u47, u48, u49, u50, u51, u52, u53, u54, u55, u56, u57, u58, u59, u60, u61, u62, u63, u64, u65, u66, u67, u68, u69, u70, u71, u72, u73, u74, u75, u76, u77, u78, u79, u80, u81, u82, u83, u84, u85, u86, u87, u88, u89, u90, u91, u92, u93, u94, u95, u96, u97, u98, u99, u100, u101, u102, u103, u104, u105, u106, u107, u108, u109, u110, u111, u112, u113, u114, u115, u116, u117, u118, u119, u120, u121, u122, u123, u124, u125, u126, u127, u128, u129, u130, u131, u132, u133, u134, u135, u136, u137, u138, u139, u140, u141, u142, u143, u144, u145, u146, u147, u148, u149, u150, u151, u152, u153, u154, u155, u156, u157, u158, u159, u160, u161, u162, u163, u164, u165, u166, u167, u168, u169, u170, u171, u172, u173, u174, u175, u176, u177, u178, u179, u180, u181, u182, u183, u184, u185, u186, u187, u188, u189, u190, u191, u192, u193, u194, u195, u196, u197, u198, u199, u200, u201, u202], defers := [] } W := by
  obtain ⟨i0, hi0, hz0, hz1, hz2⟩ := info_parts infoLabel
  have HT0 : Hid (TM w (labsOf t) 0 told Vs W) := TM.of HT
  clear HT
  obtain ⟨g, cap, rfl⟩ : ∃ g cap, told = .slice (some ⟨g, 0, none⟩) 3 cap := by
    have := HT0.out.row
    rw [hV] at this
    rcases this.2 with ⟨_, q⟩ | ⟨g, cap, _, q, _⟩
    · cases q
    · exact ⟨g, cap, q⟩
  generalize labsOf t = A at *
  dsimp only [sDrop, sFirst, bodyC, Try.f6] at hK1 hK2 ⊢
  go_wp2_with fail
  go_loopw [136] (fun i W => ∃ (j : Nat), j ≤ 3 ∧ i = .int .i64 (j : Int) ∧ Hid (TM w A j (.slice (some ⟨g, 0, none⟩) 3 cap) Vs W)) (fun i _ => 3 - (intOf i).toNat)
  case atStart => exact ⟨0, by omega, rfl, HT0⟩
  case round =>
    clear HT0
    obtain ⟨j, hj, rfl, HT⟩ := hrel
    by_cases hlt : j < 3
    · have hlt' : (j : Int) < 3 := by omega
      have hcell : wr.cell? ⟨g, j, none⟩ = some (Vs[j]'(by omega)) := by
        have := HT.out.row
        rw [hV] at this
        rw [this.cellAt j (by omega)]
        exact List.getElem?_eq_getElem (by omega)
      obtain ⟨ao, b, cp, e, hao, hR, hc1, hc2⟩ := (HT.out.own' j (by omega) (Nat.le_refl _)).open
      rw [e] at hcell
      have HE : Hid (Vs[j]'(by omega) = .slice ao A.length cp) := e
      clear hR e
      have hown0 : OwnL w.heap.size (.slice ao A.length cp) A wr := by have q := HT.out.own' j (by omega) (Nat.le_refl _); rw [HE.out] at q; exact q
      have hmk := mk_eq j hlt
      go_upto_region 27 with fail
      have HT1 : Hid (∀ o', TM w A j (.slice (some ⟨g, 0, none⟩) 3 cap) Vs (wr.alloc o')) := fun o' => HT.out.below (bel1 wr o')
      have HVP : Hid ((Value.slice ao A.length cp).ownBlock ≠ some wr.heap.size) := fun e => by
        rcases own_at hown0 with q | ⟨g', q, _, q2⟩
        · rw [q] at e; cases e
        · rw [q] at e; injection e with e; omega
      have hbp : A ≠ [] → wr.heap.size ≠ b := fun hne e => by
        have := HT.out.own' j (by omega) (Nat.le_refl _)
        rw [HE.out, hao hne] at this
        rcases own_at this with q | ⟨g', q, _, q2⟩
        · cases q
        · injection q with q; exact absurd (e.trans q) (Nat.ne_of_gt q2)
      have HW0 : Hid (WO w (wr.alloc (.cells #[.string ⟨(mkN j).toArray⟩, .string ⟨#[]⟩] 41)) A (.slice ao A.length cp) (mkN j, []) wr.heap.size 0 (wr.alloc (.cells #[.string ⟨(mkN j).toArray⟩, .string ⟨#[]⟩] 41))) := by
        have q := (HT1.out (.cells #[.string ⟨(mkN j).toArray⟩, .string ⟨#[]⟩] 41)).own' j (by omega) (Nat.le_refl _)
        rw [HE.out] at q
        exact ⟨q, grown_bel (Below.refl _ _), by simp [go_sem], by simp [go_sem]⟩
      go_loopw [148] (fun x W => ∃ (q : Nat), q ≤ A.length ∧ x = .int .i64 (q : Int) ∧ Hid (WO w (wr.alloc (.cells #[.string ⟨(mkN j).toArray⟩, .string ⟨#[]⟩] 41)) A (.slice ao A.length cp) (mkN j, []) wr.heap.size q W)) (fun x _ => A.length - (intOf x).toNat)
      case atStart => exact ⟨0, by omega, rfl, HW0⟩
      case round =>
        clear HW0 hcell
        obtain ⟨q, hq, rfl, HW⟩ := hrel
        by_cases hql : q < A.length
        · have hql' : (q : Int) < (A.length : Int) := by omega
          obtain rfl := hao (by intro e; rw [e] at hql; simp at hql)
          obtain ⟨own, _, b0, b1⟩ := HW.out
          have hne := hbp (by intro e; rw [e] at hql; simp at hql)
          have HWn : Hid _ := HW.out.step hql hne
          have c0 := own.cellAt (q * 2) (by omega)
          have c1 := own.cellAt (q * 2 + 1) (by omega)
          rw [List.getElem?_eq_getElem (by rw [own.1]; omega)] at c0 c1
          generalize (flL (reps q (mkN j, [])) ++ flL (A.drop q))[q * 2]'(by rw [own.1]; omega) = y0 at c0
          generalize (flL (reps q (mkN j, [])) ++ flL (A.drop q))[q * 2 + 1]'(by rw [own.1]; omega) = y1 at c1
          simp only at b0 b1
          have f0 := own_frozen own (q * 2)
          have f1 := own_frozen own (q * 2 + 1)
          clear own hmk hbp hne hV HW HT HE hown0
          go_wp2_with fail
          exact ⟨⟨q + 1, by omega, by go_num, HWn⟩, by simp [intOf]; omega⟩
        · have hql' : ¬ (q : Int) < (A.length : Int) := by omega
          have hqe : q = A.length := by omega
          have hown : OwnL w.heap.size (.slice ao A.length cp) (reps A.length (mkN j, [])) wr := by
            have := HW.out.own
            rw [hqe, List.drop_of_length_le (Nat.le_refl _)] at this
            unfold OwnL
            rw [reps_len]
            simpa [flL] using this
          have HP0 : Hid (AP w wr (.slice ao A.length cp) (.slice ao A.length cp) A.length 0 (mkN j, []) wr) := ⟨hown, hown, grown_bel (Below.refl _ _), Or.inr (Or.inl rfl)⟩
          have hb0 := HW.out.b0
          have hb1 := HW.out.b1
          simp only at hb0 hb1
          have HB0 : Hid _ := hb0
          have HB1 : Hid _ := hb1
          have HGr : Hid _ := HW.out.grown
          have hsz : w.heap.size ≤ wr.heap.size := Nat.le_trans (HT1.out _).bl.size HGr.out.size
          clear hb0 hb1 hown hmk hown0 hbp
          go_upto_region 32 with fail
          go_loopw [19, 22] (fun l x W => ∃ (k : Nat), k ≤ 18 ∧ x = .int .i64 (k : Int) ∧ Hid (AP w wr (.slice ao A.length cp) l A.length k (mkN j, []) W)) (fun _ x _ => 18 - (intOf x).toNat)
          case atStart => exact ⟨0, by omega, rfl, HP0⟩
          case round =>
            clear HP0
            obtain ⟨k, hk, rfl, HP⟩ := hrel
            by_cases hkl : k < 18
            · have hkl' : (k : Int) < 18 := by omega
              have e0 := HP.out.box HB0.out HVP.out
              have e1 := HP.out.box HB1.out HVP.out
              clear HE hV hqe hql'
              go_wp2_with (first
                | (at_builtin; refine wpList_append_two _ rfl _ _ 22 rfl w.heap.size 41 i0 (.agg #[.string ⟨#[]⟩, .string ⟨#[]⟩]) 2 32 Try.underlying22 hi0 hz0 hz1 hz2 rfl u19 (A.length + k) (flL (reps (A.length + k) (mkN j, []))) rfl (HP.out.curRow (bel1 _ _)) ⟨_, 0, none⟩ 1 1 [_, _] rfl rfl (cell_two_new _ _ _ _) (two_one _ _) (by omega) (by unfold maxLen; omega) (by omega) ?_; intro l' w4 hp4))
              exact ⟨⟨k + 1, by omega, by go_num, HP.out.push hsz (bel1 _ _) hp4⟩, by simp [intOf]; omega⟩
            · have hkl' : ¬ (k : Int) < 18 := by omega
              have HTn : Hid (TM w A (j + 1) (.slice (some ⟨g, 0, none⟩) 3 cap) Vs wr) := (HT1.out _).step (by omega) (by rw [HE.out]; exact grown_trans HGr.out HP.out.grown) (by rw [HE.out]; exact HP.out.own)
              clear HE hV hqe hql'
              go_wp2_with fail
              exact ⟨⟨j + 1, by omega, by go_num, HTn⟩, by simp [intOf]; omega⟩
    · have hlt' : ¬ (j : Int) < 3 := by omega
      have hj3 : j = 3 := by omega
      go_upto_region 36 with fail
      rename_i hKa _ hKb
      have HTe : TE w A.length (.slice (some ⟨g, 0, none⟩) 3 cap) Vs wr := TM.te (by rw [hV]; subst hj3; exact HT.out)
      exact keeps_read t ht A.length g cap Vs hV w _ _ _ _ _ _ _ _ _ _ _ _ _ _ _ _ _ _ _ _ _ _ _ _ _ _ _ _ _ _ _ _ _ _ _ _ _ _ _ _ _ _ _ _ _ _ _ _ _ _ _ _ _ _ _ _ _ _ _ _ _ _ _ _ _ _ _ _ _ _ _ _ _ _ _ _ _ _ _ _ _ _ _ _ _ _ _ _ _ _ _ _ _ _ _ _ _ _ _ _ _ _ _ _ _ _ _ _ _ _ _ _ _ _ _ _ _ _ _ _ _ _ _ _ _ _ _ _ _ _ _ _ _ _ _ _ _ _ _ _ _ _ _ _ _ _ _ _ _ _ _ _ _ _ _ _ _ _ _ _ _ _ _ _ _ _ _ _ _ _ _ _ _ _ _ _ _ _ _ _ _ _ _ _ _ _ _ _ _ _ _ _ _ _ _ _ _ _ _ _ _ _ _ hKa hKb HTe
end Go.Proofs.Ytmphajfhilpgeab
