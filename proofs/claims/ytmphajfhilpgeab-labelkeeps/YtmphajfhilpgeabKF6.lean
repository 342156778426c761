/- LabelKeeps: what was written is read again. Own work of the verifier. -/
import Derived.Test.YtmphajfhilpgeabKF4
import Derived.Test.YtmphajfhilpgeabKF5
namespace Go.Proofs.Ytmphajfhilpgeab
open Go.RowKit
/-- The name that is written into the i-th list. -/
def mkN (i : Nat) : List UInt8 := (Utf8.encode (65 + (i : Int))).toList
/-- The lists told, written over. -/
structure TE (w : World) (n : Nat) (told : Value) (Vs : List Value) (W : World) : Prop where
  row : W.ownsRow w.heap.size 22 1 told Vs.length Vs
  own : ∀ i (h : i < Vs.length), OwnL w.heap.size Vs[i] (reps n (mkN i, [])) W
  bl : Below w.heap.size w W
theorem TE.below {w : World} {n : Nat} {told : Value} {Vs : List Value} {W W1 : World} (h : TE w n told Vs W) (hb : Below W.heap.size W W1) : TE w n told Vs W1 :=
  ⟨World.ownsRow.kept (row := none) h.row (grown_bel hb) (by cases e : told.ownBlock <;> simp), fun i hi => (h.own i hi).below hb, h.bl.trans (hb.mono h.bl.size)⟩
set_option maxHeartbeats 16000000 in
set_option maxRecDepth 100000 in
theorem keeps_read (t : List UInt8) (ht : t.length ≤ 140737488351232) (n : Nat) (g cap : Nat) (Vs : List Value) (hV : Vs.length = 3) (w W : World)
    (u0 u2 u3 u5 u6 u7 u8 u9 u10 u11 u13 u14 u15 u16 u17 u18 u19 u20 u21 u22 u23 u24 u25 u26 u27 u28 u29 u30 u31 u32 u33 u34 u35 u36 u37 u38 u39 u40 u41 u42 u43 u44 u45 u46 u47 u48 u49 u50 u51 u52 u53 u54 u55 u56 u57 u58 u59 u60 u61 u62 u63 u64 u65 u66 u67 u68 u69 u70 u71 u72 u73 u74 u75 u76 u77 u78 u79 u80 u81 u82 u83 u84 u85 u86 u87 u88 u89 u90 u91 u92 u93 u94 u95 u96 u97 u98 u99 u100 u101 u102 u103 u104 u105 u106 u107 u108 u109 u110 u111 u112 u113 u114 u115 u116 u117 u118 u119 u120 u121 u122 u123 u124 u125 u126 u127 u128 u129 u130 u131 u132 u133 u134 u135 u136 u137 u138 u139 u140 u141 u142 u143 u144 u145 u146 u147 u148 u149 u150 u151 u152 u153 u154 u155 u156 u157 u158 u159 u160 u161 u162 u163 u164 u165 u166 u167 u168 u169 u170 u171 u172 u173 u174 u175 u176 u177 u178 u179 u180 u181 u182 u183 u184 u185 u186 u187 u188 u189 u190 u191 u192 u193 u194 u195 u196 u197 u198 u199 u200 u201 u202 : Value) (K1 K2 : Act → World → Prop) (hK1 : ∀ a w1, Code.wp Try.prog (sDrop 17 (bodyC Try.f6.body)) (bodyPost Try.prog Try.f6 fun r w' => r = .returned (.bool true) ∧ Below w.heap.size w w') a w1 → K1 a w1) (hK2 : ∀ a w1, Code.wp Try.prog (sDrop 1 (sFirst (sDrop 16 (bodyC Try.f6.body)))) (Exit.then K1 (bodyPost Try.prog Try.f6 fun r w' => r = .returned (.bool true) ∧ Below w.heap.size w w')) a w1 → K2 a w1) (HT : TE w n (.slice (some ⟨g, 0, none⟩) 3 cap) Vs W) :
    Code.wp Try.prog (sFirst (sFirst (sDrop 16 (bodyC Try.f6.body)))) (Exit.then K2 (Exit.then K1 (bodyPost Try.prog Try.f6 fun r w' => r = .returned (.bool true) ∧ Below w.heap.size w w'))) { tmps := #[u0, (.string ⟨t.toArray⟩), u2, u3, (.bool false), u5, u6, u7, u8, u9, u10, u11, (.slice (some ⟨g, 0, none⟩) 3 cap), u13, u14, u15, u16, u17, u18, u19, u20, u21, u22, u23, u24, u25, u26, u27, u28, u29, u30, u31, u32, u33, u34, u35, u36, u37, u38, u39, u40, u41, u42, u43, u44, u45, u46, u47, u48, u49, u50, u51, u52, u53, u54, u55, u56, u57, u58, u59, u60, u61, u62, u63, u64, u65, u66, u67, u68, u69, u70, u71, u72, u73, u74, u75, u76, u77, u78, u79, u80, u81, u82, u83, u84, u85, u86, u87, u88, u89, u90, u91, u92, u93, u94, u95, u96, u97, u98, u99, u100, u101, u102, u103, u104, u105, u106, u107, u108, u109, u110, u111, u112, u113, u114, u115, u116, u117, u118, u119, u120, u121, u122, u123, u124, u125, u126, u127, u128, u129, u130, u131, u132, u133, u134, u135, u136, u137, u138, u139, u140, u141, u142, u143, u144, u145, u146, u147, u148, u149, u150, u151, u152, u153, u154, u155, u156, u157, u158, u159, u160, u161, u162, u163, u164, u165, u166, u167, u168, u169, u170, u171, u172, u173, u174, u175, u176, u177, u178, u179, u180, u181, u182, u183, u184, u185, u186, u187, u188, u189, u190, u191, u192, u193, u194, u195, u196, u197, u198, u199, u200, u201, u202], defers := [] } W := by
  have HT0 : Hid (TE w n (.slice (some ⟨g, 0, none⟩) 3 cap) Vs W) := HT
  clear HT
  dsimp only [sDrop, sFirst, bodyC, Try.f6] at hK1 hK2 ⊢
  go_wp2_with fail
  go_loopw [167] (fun i W => ∃ (j : Nat), j ≤ 3 ∧ i = .int .i64 (j : Int) ∧ Hid (TE w n (.slice (some ⟨g, 0, none⟩) 3 cap) Vs W)) (fun i _ => 3 - (intOf i).toNat)
  case atStart => exact ⟨0, by omega, rfl, HT0⟩
  case round =>
    clear HT0
    obtain ⟨j, hj, rfl, HT⟩ := hrel
    by_cases hlt : j < 3
    · have hlt' : (j : Int) < 3 := by omega
      have hcell : wr.cell? ⟨g, j, none⟩ = some (Vs[j]'(by omega)) := by
        have := HT.out.row
        rw [hV] at this
        rw [this.cellAt j (by omega)]
        exact List.getElem?_eq_getElem (by omega)
      have hownj := HT.out.own j (by omega)
      generalize Vs[j]'(by omega) = vj at hcell hownj
      obtain ⟨ao, b, cp, e, hao, hR, hc1, hc2⟩ := hownj.open
      rw [show (reps n (mkN j, [])).length = n by simp [reps]] at e hc1
      subst e
      have HRw : Hid (RowL wr b 0 (reps n (mkN j, []))) := hR
      clear hownj hR
      go_upto_region 40 with fail
      go_loopw [174] (fun x W => ∃ (q : Nat), q ≤ n ∧ x = .int .i64 (q : Int) ∧ Hid (TE w n (.slice (some ⟨g, 0, none⟩) 3 cap) Vs W) ∧ Hid (RowL W b 0 (reps n (mkN j, [])))) (fun x _ => n - (intOf x).toNat)
      case atStart => exact ⟨0, by omega, rfl, HT, HRw⟩
      case round =>
        clear HT HRw hcell
        obtain ⟨q, hq, rfl, HT, HRw⟩ := hrel
        by_cases hql : q < n
        · have hql' : (q : Int) < (n : Int) := by omega
          obtain rfl := hao (by intro e; have := congrArg List.length e; simp [reps] at this; omega)
          have hrow := HRw.out q (by simp [reps]; omega)
          obtain ⟨c0, c1⟩ := hrow
          rw [show (reps n (mkN j, ([] : List UInt8)))[q]'(by simp [reps]; omega) = (mkN j, []) by simp [reps]] at c0 c1
          simp only [Nat.zero_add] at c0 c1
          have HTn : Hid (∀ o', TE w n (.slice (some ⟨g, 0, none⟩) 3 cap) Vs (wr.alloc o')) := fun o' => HT.out.below (bel1 wr o')
          have HRn : Hid (∀ o', RowL (wr.alloc o') b 0 (reps n (mkN j, []))) := fun o' => HRw.out.below (bel1 wr o')
          have hmk : (Utf8.encode (65 + (j : Int))).toList = mkN j := rfl
          go_wp2_with fail
          exact ⟨⟨q + 1, by omega, by go_num, HTn.out _, HRn.out _⟩, by simp [intOf]; omega⟩
        · have hql' : ¬ (q : Int) < (n : Int) := by omega
          go_wp2_with fail
          exact ⟨⟨j + 1, by omega, by go_num, HT⟩, by simp [intOf]; omega⟩
    · have hlt' : ¬ (j : Int) < 3 := by omega
      go_upto_region 46 with fail
      rename_i hKl
      exact keeps_end t ht w _ _ _ _ _ _ _ _ _ _ _ _ _ _ _ _ _ _ _ _ _ _ _ _ _ _ _ _ _ _ _ _ _ _ _ _ _ _ _ _ _ _ _ _ _ _ _ _ _ _ _ _ _ _ _ _ _ _ _ _ _ _ _ _ _ _ _ _ _ _ _ _ _ _ _ _ _ _ _ _ _ _ _ _ _ _ _ _ _ _ _ _ _ _ _ _ _ _ _ _ _ _ _ _ _ _ _ _ _ _ _ _ _ _ _ _ _ _ _ _ _ _ _ _ _ _ _ _ _ _ _ _ _ _ _ _ _ _ _ _ _ _ _ _ _ _ _ _ _ _ _ _ _ _ _ _ _ _ _ _ _ _ _ _ _ _ _ _ _ _ _ _ _ _ _ _ _ _ _ _ _ _ _ _ _ _ _ _ _ _ _ _ _ _ _ _ _ _ _ _ _ _ _ _ hKl HT.out.bl
end Go.Proofs.Ytmphajfhilpgeab
