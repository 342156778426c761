/- LabelKeeps: the end of the walk. Own work of the verifier. -/
import Derived.Test.YtmphajfhilpgeabKF0
namespace Go.Proofs.Ytmphajfhilpgeab
open Go.RowKit
set_option maxHeartbeats 16000000 in
set_option maxRecDepth 100000 in
theorem keeps_end (t : List UInt8) (ht : t.length ≤ 140737488351232) (w W : World)
    (u0 u2 u3 u4 u5 u6 u7 u8 u9 u10 u11 u12 u13 u14 u15 u16 u17 u18 u19 u20 u21 u22 u23 u24 u25 u26 u27 u28 u29 u30 u31 u32 u33 u34 u35 u36 u37 u38 u39 u40 u41 u42 u43 u44 u45 u46 u47 u48 u49 u50 u51 u52 u53 u54 u55 u56 u57 u58 u59 u60 u61 u62 u63 u64 u65 u66 u67 u68 u69 u70 u71 u72 u73 u74 u75 u76 u77 u78 u79 u80 u81 u82 u83 u84 u85 u86 u87 u88 u89 u90 u91 u92 u93 u94 u95 u96 u97 u98 u99 u100 u101 u102 u103 u104 u105 u106 u107 u108 u109 u110 u111 u112 u113 u114 u115 u116 u117 u118 u119 u120 u121 u122 u123 u124 u125 u126 u127 u128 u129 u130 u131 u132 u133 u134 u135 u136 u137 u138 u139 u140 u141 u142 u143 u144 u145 u146 u147 u148 u149 u150 u151 u152 u153 u154 u155 u156 u157 u158 u159 u160 u161 u162 u163 u164 u165 u166 u167 u168 u169 u170 u171 u172 u173 u174 u175 u176 u177 u178 u179 u180 u181 u182 u183 u184 u185 u186 u187 u188 u189 u190 u191 u192 u193 u194 u195 u196 u197 u198 u199 u200 u201 u202 : Value) (K : Act → World → Prop) (hK : ∀ a w1, Code.wp Try.prog (sDrop 18 (bodyC Try.f6.body)) (bodyPost Try.prog Try.f6 fun r w' => r = .returned (.bool true) ∧ Below w.heap.size w w') a w1 → K a w1) (hbl : Below w.heap.size w W) :
    Code.wp Try.prog (sFirst (sDrop 17 (bodyC Try.f6.body))) (Exit.then K (bodyPost Try.prog Try.f6 fun r w' => r = .returned (.bool true) ∧ Below w.heap.size w w'))
      { tmps := #[u0, (.string ⟨t.toArray⟩), u2, u3, u4, u5, u6, u7, u8, u9, u10, u11, u12, u13, u14, u15, u16, u17, u18, u19, u20, u21, u22, u23, u24, u25, u26, u27, u28, u29, u30, u31, u32, u33, u34, u35, u36, u37, u38, u39, u40, u41, u42, u43, u44, u45, u46, u47, u48, u49, u50, u51, u52, u53, u54, u55, u56, u57, u58, u59, u60, u61, u62, u63, u64, u65, u66, u67, u68, u69, u70, u71, u72, u73, u74, u75, u76, u77, u78, u79, u80, u81, u82, u83, u84, u85, u86, u87, u88, u89, u90, u91, u92, u93, u94, u95, u96, u97, u98, u99, u100, u101, u102, u103, u104, u105, u106, u107, u108, u109, u110, u111, u112, u113, u114, u115, u116, u117, u118, u119, u120, u121, u122, u123, u124, u125, u126, u127, u128, u129, u130, u131, u132, u133, u134, u135, u136, u137, u138, u139, u140, u141, u142, u143, u144, u145, u146, u147, u148, u149, u150, u151, u152, u153, u154, u155, u156, u157, u158, u159, u160, u161, u162, u163, u164, u165, u166, u167, u168, u169, u170, u171, u172, u173, u174, u175, u176, u177, u178, u179, u180, u181, u182, u183, u184, u185, u186, u187, u188, u189, u190, u191, u192, u193, u194, u195, u196, u197, u198, u199, u200, u201, u202], defers := [] } W := by
  have C1 : Hid (∀ W, Calls Try.prog 10 #[.string ⟨t.toArray⟩] W fun r w' => TellsC t W.heap.size r w' ∧ Below W.heap.size W w') := fun W => cparse_any t (by omega) W
  have C2 : Hid (∀ W, Calls Try.prog 19 #[.string ⟨t.toArray⟩] W fun r w' => TellsD t W.heap.size r w' ∧ Below W.heap.size W w') := fun W => dparse_any t (by omega) W
  have HK : Hid (Below w.heap.size w W) := hbl
  clear ht hbl
  dsimp only [sDrop, sFirst, bodyC, Try.f6] at hK ⊢
  go_wp2_with fail
  refine (C1.out _).mono ?_
  rintro e w2 ⟨hT1, hb2⟩
  have HK2 : Hid (Below w.heap.size w w2) := HK.out.trans (hb2.mono HK.out.size)
  clear HK hb2 C1
  rcases hT1 with ⟨z, k, ho, hz, rfl⟩ | ⟨n, A, v, ho, rfl, hown⟩
  · have HO : Hid (parR t = .error (z, k)) := ho
    clear ho hz
    as_aux_lemma =>
      go_wp2_with fail
      refine (C2.out _).mono ?_
      rintro e w3 ⟨hT2, hb3⟩
      have HK3 : Hid (Below w.heap.size w w3) := HK2.out.trans (hb3.mono HK2.out.size)
      clear HK2 hb3 C2
      rcases hT2 with ⟨z2, k2, ho2, rfl⟩ | ⟨n2, A2, v2, ho2, _⟩
      · have HK4 : Hid (∀ o', Below w.heap.size w (w3.alloc o')) := fun o' => HK3.out.trans ((bel1 w3 o').mono HK3.out.size)
        have HSm : Hid (∀ W, Calls Try.prog 14 #[.slice none 0 0, .slice none 0 0] W fun e w' => e = .returned (.bool true) ∧ Below W.heap.size W w') := fun W => own_same (OwnL.nil 0 W) (OwnL.nil 0 W)
        clear ho2 HO HK3
        go_wp2_with (go_at_call 14; refine (HSm.out _).mono ?_; rintro e1 w5 ⟨rfl, hb5⟩)
        go_ret
        exact ⟨rfl, (HK4.out _).trans (hb5.mono (HK4.out _).size)⟩
      · rw [HO.out] at ho2; cases ho2
  · have HO : Hid (parR t = .ok (n, A)) := ho
    have HW : Hid (OwnL W.heap.size v A w2) := hown
    clear ho hown
    as_aux_lemma =>
      go_wp2_with fail
      refine (C2.out _).mono ?_
      rintro e w3 ⟨hT2, hb3⟩
      have HK3 : Hid (Below w.heap.size w w3) := HK2.out.trans (hb3.mono HK2.out.size)
      have HW3 : Hid (OwnL W.heap.size v A w3) := OwnL.below HW.out hb3
      clear HK2 hb3 C2 HW
      rcases hT2 with ⟨z2, k2, ho2, rfl⟩ | ⟨n2, A2, v2, ho2, rfl, hown2⟩
      · rw [HO.out] at ho2; cases ho2
      · have hzk : n2 = n ∧ A2 = A := by rw [HO.out] at ho2; cases ho2; exact ⟨rfl, rfl⟩
        obtain ⟨rfl, rfl⟩ := hzk
        have HK4 : Hid (∀ o', Below w.heap.size w (w3.alloc o')) := fun o' => HK3.out.trans ((bel1 w3 o').mono HK3.out.size)
        have HSm : Hid (∀ o', Calls Try.prog 14 #[v, v2] (w3.alloc o') fun e w' => e = .returned (.bool true) ∧ Below (w3.alloc o').heap.size (w3.alloc o') w') := fun o' => own_same (OwnL.below HW3.out (bel1 w3 o')) (hown2.below (bel1 w3 o'))
        clear ho2 HO HK3 HW3 hown2
        go_wp2_with (go_at_call 14; refine (HSm.out _).mono ?_; rintro e1 w5 ⟨rfl, hb5⟩)
        go_ret
        exact ⟨rfl, (HK4.out _).trans (hb5.mono (HK4.out _).size)⟩
end Go.Proofs.Ytmphajfhilpgeab
