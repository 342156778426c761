/- LabelKeeps: the start of the walk. Own work of the verifier. -/
import Derived.Test.YtmphajfhilpgeabKF2
import Derived.Test.YtmphajfhilpgeabCC6
namespace Go.Proofs.Ytmphajfhilpgeab
open Go.RowKit
set_option maxHeartbeats 16000000 in
set_option maxRecDepth 100000 in
theorem keeps_start (d : Ds) (v : Value) (t : List UInt8) (_ht : t.length ≤ 140737488351232) (w : World) (hd : DsC w d v) (sn : d.name.length ≤ 140737488351232) (sd : DsS d) (sl : ∀ a ∈ d.labels, a.1.length ≤ 140737488351232 ∧ a.2.length ≤ 140737488351232) (hnn : ∀ (k n h : Value) (ao : Option Addr) (m cap : Nat), v = .agg #[k, n, h, .slice ao m cap] → ao = none → cap = 0)
    (Hr : (∀ (W : World) (u0 u2 u3 u5 u6 u7 u8 u9 u10 u11 u12 u13 u14 u15 u16 u17 u18 u19 u20 u21 u22 u23 u24 u25 u26 u27 u28 u29 u30 u31 u32 u33 u34 u35 u36 u37 u38 u39 u40 u41 u42 u43 u44 u45 u46 u47 u48 u49 u50 u51 u52 u53 u54 u55 u56 u57 u58 u59 u60 u61 u62 u63 u64 u65 u66 u67 u68 u69 u70 u71 u72 u73 u74 u75 u76 u77 u78 u79 u80 u81 u82 u83 u84 u85 u86 u87 u88 u89 u90 u91 u92 u93 u94 u95 u96 u97 u98 u99 u100 u101 u102 u103 u104 u105 u106 u107 u108 u109 u110 u111 u112 u113 u114 u115 u116 u117 u118 u119 u120 u121 u122 u123 u124 u125 u126 u127 u128 u129 u130 u131 u132 u133 u134 u135 u136 u137 u138 u139 u140 u141 u142 u143 u144 u145 u146 u147 u148 u149 u150 u151 u152 u153 u154 u155 u156 u157 u158 u159 u160 u161 u162 u163 u164 u165 u166 u167 u168 u169 u170 u171 u172 u173 u174 u175 u176 u177 u178 u179 u180 u181 u182 u183 u184 u185 u186 u187 u188 u189 u190 u191 u192 u193 u194 u195 u196 u197 u198 u199 u200 u201 u202 : Value) (K : Act → World → Prop), (∀ a w1, Code.wp Try.prog (sDrop 14 (bodyC Try.f6.body)) (bodyPost Try.prog Try.f6 fun r w' => r = .returned (.bool true) ∧ Below w.heap.size w w') a w1 → K a w1) → Below w.heap.size w W → Code.wp Try.prog (sFirst (sDrop 13 (bodyC Try.f6.body))) (Exit.then K (bodyPost Try.prog Try.f6 fun r w' => r = .returned (.bool true) ∧ Below w.heap.size w w')) { tmps := #[u0, (.string ⟨t.toArray⟩), u2, u3, (.bool false), u5, u6, u7, u8, u9, u10, u11, u12, u13, u14, u15, u16, u17, u18, u19, u20, u21, u22, u23, u24, u25, u26, u27, u28, u29, u30, u31, u32, u33, u34, u35, u36, u37, u38, u39, u40, u41, u42, u43, u44, u45, u46, u47, u48, u49, u50, u51, u52, u53, u54, u55, u56, u57, u58, u59, u60, u61, u62, u63, u64, u65, u66, u67, u68, u69, u70, u71, u72, u73, u74, u75, u76, u77, u78, u79, u80, u81, u82, u83, u84, u85, u86, u87, u88, u89, u90, u91, u92, u93, u94, u95, u96, u97, u98, u99, u100, u101, u102, u103, u104, u105, u106, u107, u108, u109, u110, u111, u112, u113, u114, u115, u116, u117, u118, u119, u120, u121, u122, u123, u124, u125, u126, u127, u128, u129, u130, u131, u132, u133, u134, u135, u136, u137, u138, u139, u140, u141, u142, u143, u144, u145, u146, u147, u148, u149, u150, u151, u152, u153, u154, u155, u156, u157, u158, u159, u160, u161, u162, u163, u164, u165, u166, u167, u168, u169, u170, u171, u172, u173, u174, u175, u176, u177, u178, u179, u180, u181, u182, u183, u184, u185, u186, u187, u188, u189, u190, u191, u192, u193, u194, u195, u196, u197, u198, u199, u200, u201, u202], defers := [] } W)) :
    Calls Try.prog 6 #[v, .string ⟨t.toArray⟩] w fun r w' => r = .returned (.bool true) ∧ Below w.heap.size w w' := by
  have HRr : Hid _ := Hr
  clear Hr
  have HA : Hid (∀ W, Calls Try.prog 7 #[] W fun r w' => r = .returned (.bool true) ∧ Below W.heap.size W w') := fun W => awake_any W
  obtain ⟨i0, hi0, hz0, hz1, hz2⟩ := info_parts infoLabel
  obtain ⟨ao, b, o, cap, rfl, h1, h2, h3, h4⟩ := hd
  obtain ⟨kd, nm, hp, L⟩ := d
  simp only at sn sl h1 h2 h3 h4 ⊢
  have hbw : L ≠ [] → b < w.heap.size := fun hne => by
    have hl : 0 < L.length := List.length_pos_iff.2 hne
    exact lt_of_cell (h4 0 hl).1
  have HBy : Hid (∀ W, RowL W b o L → Calls Try.prog 15 #[.string ⟨nm.toArray⟩, .slice ao L.length cap] W fun r w' => r = .returned (.bool (decide (2147483647 < nm.length + wgt L))) ∧ w' = W) := fun W h => beyond_any nm sn ao b o cap L h1 (by omega) sl W h
  have HK0 : Hid (KB w kd nm hp ao b o cap L (w.alloc (.cells #[.int .i64 kd, .string ⟨nm.toArray⟩, .string ⟨hp.toArray⟩, .slice ao L.length cap] 24))) := ⟨by simp [go_sem], by simp [go_sem], by simp [go_sem], by simp [go_sem], h4.below (bel1 w _), bel1 w _⟩
  go_enter Try.func6, Try.ntmps6
  go_wp2_with fail
  refine (HA.out _).mono ?_
  rintro r w1 ⟨rfl, hb⟩
  have HK1 : Hid (KB w kd nm hp ao b o cap L w1) := HK0.out.below hb
  clear HA HK0 hb h4
  obtain ⟨c0, c1, c2, c3, hr, hbl⟩ := HK1.out
  have HB1 : HidC _ _ _ _ _ := HBy.out w1 hr
  clear HBy hr
  by_cases hbd : 2147483647 < nm.length + wgt L
  · rw [decide_eq_true hbd] at HB1
    as_aux_lemma =>
      go_wp2_with fail
      refine (HB1.out).mono ?_
      rintro r w2 ⟨rfl, hw2⟩
      subst w2
      clear HB1
      go_wp2_with fail
      go_ret
      exact ⟨rfl, hbl⟩
  rw [decide_eq_false hbd] at HB1
  have hLn := wgt_len L
  have hLs : L.length ≤ 268435456 := by omega
  obtain ⟨N, hN⟩ : ∃ N, N = L.length + 2 := ⟨_, rfl⟩
  have hN' : (L.length : Int) + 2 = (N : Int) := by omega
  have hNb : N ≤ 268435458 := by omega
  have HN : Hid (N = L.length + 2) := hN
  have hgw : w.heap.size < w1.heap.size := lt_of_cell HK1.out.c0
  have hnone : ao = none → L.length = 0 ∧ cap = 0 := fun e => ⟨by by_cases hL0 : L = []; (rw [hL0]; rfl); (have := h1 hL0; rw [e] at this; cases this), hnn _ _ _ _ _ _ rfl e⟩
  clear hN
  go_upto_region 5 with (go_at_call 15; refine (HB1.out).mono ?_; rintro r w2 ⟨rfl, hw2⟩; subst w2)
  clear HB1 hbl
  go_cut [5] (fun x W => x = .slice (some ⟨w1.heap.size, 0, none⟩) 0 N ∧ Hid (KB w kd nm hp ao b o cap L W) ∧ Hid (W.ownsRow (w.heap.size + 1) 41 2 (.slice (some ⟨w1.heap.size, 0, none⟩) 0 N) 0 []))
  case first =>
    as_aux_lemma =>
      go_wp2_with (first
        | (refine wpList_make_own _ rfl _ _ 22 rfl (w.heap.size + 1) 41 i0 (.agg #[.string ⟨#[]⟩, .string ⟨#[]⟩]) 2 Try.underlying22 hi0 hz0 hz1 .i64 .i64 _ N rfl rfl (by first | rfl | omega | simp) (by rw [hz2]; omega) (by unfold maxLen; omega) (by omega) ?_; intro w3 hown hgr))
      go_meet
      exact ⟨rfl, HK1.out.below (bel_grown hgr), hown⟩
  case rest =>
  obtain ⟨rfl, HK3, HO3⟩ := hcut
  clear c0 c1 c2 c3
  obtain ⟨c0, c1, c2, c3, hr3, _⟩ := HK3.out
  have HR3 : Hid (RowL wc b o L) := hr3
  clear hr3
  generalize w1.heap.size = g at *
  go_upto_region 6 with fail
  go_cut [5] (fun x W => x = .slice (some ⟨g, 0, none⟩) L.length N ∧ Hid (KB w kd nm hp ao b o cap L W) ∧ Hid (W.ownsRow (w.heap.size + 1) 41 2 (.slice (some ⟨g, 0, none⟩) L.length N) L.length (flL L)))
  case first =>
    as_aux_lemma =>
      go_wp2_with (first
        | (at_builtin; refine wpList_append_fits_any _ rfl _ _ 22 rfl (w.heap.size + 1) 41 i0 2 Try.underlying22 hi0 hz1 g 0 N [] rfl HO3.out ao L.length cap (flL L) rfl (flL_length L) hnone (fun ad e j u hu => by have hne : L ≠ [] := (fun k => by rw [k] at hu; simp [flL] at hu); rw [h1 hne] at e; cases e; exact RowL.news HR3.out j u hu) (flL_one L) (by omega) ?_; intro w4 hown4 hgr4))
      go_meet
      rw [Nat.zero_add, List.nil_append] at hown4
      exact ⟨by simp, HK3.out.grown hgr4 hgw hbw, hown4⟩
  case rest =>
  obtain ⟨rfl, HK4, HO4⟩ := hcut
  clear c0 c1 c2 c3 HK3 HO3 HR3
  go_upto_region 7 with fail
  go_cut [6] (fun x W => x = .slice (some ⟨g, 0, none⟩) (L.length + 2) N ∧ Hid (KS w kd nm hp ao b o cap L g N W))
  case first =>
    as_aux_lemma =>
      go_wp2_with (first
        | (at_builtin; refine wpList_append_fits _ rfl _ _ 22 rfl (w.heap.size + 1) 41 i0 2 Try.underlying22 hi0 hz1 g L.length N (flL L) rfl (World.ownsRow.alloc HO4.out _) ⟨_, 0, none⟩ 2 2 [_, _, _, _] rfl rfl (cell_four_new _ _ _ _ _ _) (four_one _ _ _ _) (by have := HN.out; omega) ?_; intro w5 hown5 hgr5))
      go_meet
      exact ⟨rfl, (HK4.out.below (bel1 _ _)).grown hgr5 hgw hbw, hown5⟩
  case rest =>
  obtain ⟨rfl, HS5⟩ := hcut
  clear HK4 HO4 hnone HK1
  have hpl := print_len nm L
  rename_i hKr
  refine hKr _ _ ?_
  exact keeps_calls kd nm hp ao b o cap L g N t w _ h1 h2 h3 sd (by omega) (fun a ha => by have := wgt_mem L a ha; omega) HS5.out _ _ _ _ _ _ _ _ _ _ _ _ _ _ _ _ _ _ _ _ _ _ _ _ _ _ _ _ _ _ _ _ _ _ _ _ _ _ _ _ _ _ _ _ _ _ _ _ _ _ _ _ _ _ _ _ _ _ _ _ _ _ _ _ _ _ _ _ _ _ _ _ _ _ _ _ _ _ _ _ _ _ _ _ _ _ _ _ _ _ _ _ _ _ _ _ _ _ _ _ _ _ _ _ _ _ _ _ _ _ _ _ _ _ _ _ _ _ _ _ _ _ _ _ _ _ _ _ _ _ _ _ _ _ _ _ _ _ _ _ _ _ _ _ _ _ _ _ _ _ _ _ _ _ _ _ _ _ _ _ _ _ _ _ _ _ _ _ _ _ _ _ _ _ _ _ _ _ _ _ _ _ _ _ _ _ _ _ _ _ _ _ _ _ _ _ _ _ HRr.out
end Go.Proofs.Ytmphajfhilpgeab
