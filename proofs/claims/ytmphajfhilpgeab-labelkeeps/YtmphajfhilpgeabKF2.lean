/- LabelKeeps: the calls beside the own list. Own work of the verifier. -/
import Derived.Test.YtmphajfhilpgeabKF0
import Derived.Test.YtmphajfhilpgeabCC4
namespace Go.Proofs.Ytmphajfhilpgeab
open Go.RowKit
theorem DsC.of {W : World} {kd : Int} {nm hp : List UInt8} {ao : Option Addr} {b o cap : Nat} {L : List Lb} (h1 : L ≠ [] → ao = some ⟨b, o, none⟩) (h2 : L.length ≤ cap) (h3 : cap ≤ 9223372036854775807) (h4 : RowL W b o L) : DsC W ⟨kd, nm, hp, L⟩ (.agg #[.int .i64 kd, .string ⟨nm.toArray⟩, .string ⟨hp.toArray⟩, .slice ao L.length cap]) := ⟨ao, b, o, cap, rfl, h1, h2, h3, h4⟩
/-- The box of the copy. -/
structure KX (w : World) (kd : Int) (nm hp : List UInt8) (ao : Option Addr) (b o cap : Nat) (L : List Lb) (g N p : Nat) (W : World) : Prop where
  ks : KS w kd nm hp ao b o cap L g N W
  x0 : W.cell? ⟨p, 0, none⟩ = some (.int .i64 kd)
  x1 : W.cell? ⟨p, 1, none⟩ = some (.string ⟨nm.toArray⟩)
  x2 : W.cell? ⟨p, 2, none⟩ = some (.string ⟨hp.toArray⟩)
  x3 : W.cell? ⟨p, 3, none⟩ = some (.slice (some ⟨g, 0, none⟩) L.length N)
theorem KX.below {w : World} {kd : Int} {nm hp : List UInt8} {ao : Option Addr} {b o cap : Nat} {L : List Lb} {g N p : Nat} {W W1 : World} (h : KX w kd nm hp ao b o cap L g N p W) (hb : Below W.heap.size W W1) : KX w kd nm hp ao b o cap L g N p W1 :=
  ⟨h.ks.below hb, (hb.cell (lt_of_cell h.x0)).trans h.x0, (hb.cell (lt_of_cell h.x1)).trans h.x1, (hb.cell (lt_of_cell h.x2)).trans h.x2, (hb.cell (lt_of_cell h.x3)).trans h.x3⟩
theorem ordD_self (d : Ds) : ordD d d = 0 := by
  have := ordD_flip d d
  omega
set_option maxHeartbeats 16000000 in
set_option maxRecDepth 100000 in
theorem keeps_calls (kd : Int) (nm hp : List UInt8) (ao : Option Addr) (b o cap : Nat) (L : List Lb) (g N : Nat) (t : List UInt8) (w W : World)
    (h1 : L ≠ [] → ao = some ⟨b, o, none⟩) (h2 : L.length ≤ cap) (h3 : cap ≤ 9223372036854775807) (sd : DsS ⟨kd, nm, hp, L⟩) (hT : (printT nm L).length ≤ 140737488355328) (hv : ∀ a ∈ L, a.2.length ≤ 35184372088832)
    (HS : KS w kd nm hp ao b o cap L g N W) (v : Value)
    (u3 u7 u8 u9 u10 u11 u12 u13 u14 u15 u16 u17 u18 u19 u20 u21 u22 u23 u24 u25 u26 u27 u28 u29 u30 u31 u32 u33 u34 u35 u36 u37 u38 u39 u40 u41 u42 u43 u44 u45 u46 u47 u48 u49 u50 u51 u52 u53 u54 u55 u56 u57 u58 u59 u60 u61 u62 u63 u64 u65 u66 u67 u68 u69 u70 u71 u72 u73 u74 u75 u76 u77 u78 u79 u80 u81 u82 u83 u84 u85 u86 u87 u88 u89 u90 u91 u92 u93 u94 u95 u96 u97 u98 u99 u100 u101 u102 u103 u104 u105 u106 u107 u108 u109 u110 u111 u112 u113 u114 u115 u116 u117 u118 u119 u120 u121 u122 u123 u124 u125 u126 u127 u128 u129 u130 u131 u132 u133 u134 u135 u136 u137 u138 u139 u140 u141 u142 u143 u144 u145 u146 u147 u148 u149 u150 u151 u152 u153 u154 u155 u156 u157 u158 u159 u160 u161 u162 u163 u164 u165 u166 u167 u168 u169 u170 u171 u172 u173 u174 u175 u176 u177 u178 u179 u180 u181 u182 u183 u184 u185 u186 u187 u188 u189 u190 u191 u192 u193 u194 u195 u196 u197 u198 u199 u200 u201 u202 : Value)
    (Hr : (∀ (W : World) (u0 u2 u3 u5 u6 u7 u8 u9 u10 u11 u12 u13 u14 u15 u16 u17 u18 u19 u20 u21 u22 u23 u24 u25 u26 u27 u28 u29 u30 u31 u32 u33 u34 u35 u36 u37 u38 u39 u40 u41 u42 u43 u44 u45 u46 u47 u48 u49 u50 u51 u52 u53 u54 u55 u56 u57 u58 u59 u60 u61 u62 u63 u64 u65 u66 u67 u68 u69 u70 u71 u72 u73 u74 u75 u76 u77 u78 u79 u80 u81 u82 u83 u84 u85 u86 u87 u88 u89 u90 u91 u92 u93 u94 u95 u96 u97 u98 u99 u100 u101 u102 u103 u104 u105 u106 u107 u108 u109 u110 u111 u112 u113 u114 u115 u116 u117 u118 u119 u120 u121 u122 u123 u124 u125 u126 u127 u128 u129 u130 u131 u132 u133 u134 u135 u136 u137 u138 u139 u140 u141 u142 u143 u144 u145 u146 u147 u148 u149 u150 u151 u152 u153 u154 u155 u156 u157 u158 u159 u160 u161 u162 u163 u164 u165 u166 u167 u168 u169 u170 u171 u172 u173 u174 u175 u176 u177 u178 u179 u180 u181 u182 u183 u184 u185 u186 u187 u188 u189 u190 u191 u192 u193 u194 u195 u196 u197 u198 u199 u200 u201 u202 : Value) (K : Act → World → Prop), (∀ a w1, Code.wp Try.prog (sDrop 14 (bodyC Try.f6.body)) (bodyPost Try.prog Try.f6 fun r w' => r = .returned (.bool true) ∧ Below w.heap.size w w') a w1 → K a w1) → Below w.heap.size w W → Code.wp Try.prog (sFirst (sDrop 13 (bodyC Try.f6.body))) (Exit.then K (bodyPost Try.prog Try.f6 fun r w' => r = .returned (.bool true) ∧ Below w.heap.size w w')) { tmps := #[u0, (.string ⟨t.toArray⟩), u2, u3, (.bool false), u5, u6, u7, u8, u9, u10, u11, u12, u13, u14, u15, u16, u17, u18, u19, u20, u21, u22, u23, u24, u25, u26, u27, u28, u29, u30, u31, u32, u33, u34, u35, u36, u37, u38, u39, u40, u41, u42, u43, u44, u45, u46, u47, u48, u49, u50, u51, u52, u53, u54, u55, u56, u57, u58, u59, u60, u61, u62, u63, u64, u65, u66, u67, u68, u69, u70, u71, u72, u73, u74, u75, u76, u77, u78, u79, u80, u81, u82, u83, u84, u85, u86, u87, u88, u89, u90, u91, u92, u93, u94, u95, u96, u97, u98, u99, u100, u101, u102, u103, u104, u105, u106, u107, u108, u109, u110, u111, u112, u113, u114, u115, u116, u117, u118, u119, u120, u121, u122, u123, u124, u125, u126, u127, u128, u129, u130, u131, u132, u133, u134, u135, u136, u137, u138, u139, u140, u141, u142, u143, u144, u145, u146, u147, u148, u149, u150, u151, u152, u153, u154, u155, u156, u157, u158, u159, u160, u161, u162, u163, u164, u165, u166, u167, u168, u169, u170, u171, u172, u173, u174, u175, u176, u177, u178, u179, u180, u181, u182, u183, u184, u185, u186, u187, u188, u189, u190, u191, u192, u193, u194, u195, u196, u197, u198, u199, u200, u201, u202], defers := [] } W)) :
    Code.wp Try.prog (sDrop 6 (bodyC Try.f6.body)) (bodyPost Try.prog Try.f6 fun r w' => r = .returned (.bool true) ∧ Below w.heap.size w w')
      { tmps := #[v, (.string ⟨t.toArray⟩), (.pointer (some ⟨w.heap.size, 0, none⟩)), u3, (.bool false), (.slice (some ⟨g, 0, none⟩) L.length N), (.slice (some ⟨g, 0, none⟩) (L.length + 2) N), u7, u8, u9, u10, u11, u12, u13, u14, u15, u16, u17, u18, u19, u20, u21, u22, u23, u24, u25, u26, u27, u28, u29, u30, u31, u32, u33, u34, u35, u36, u37, u38, u39, u40, u41, u42, u43, u44, u45, u46, u47, u48, u49, u50, u51, u52, u53, u54, u55, u56, u57, u58, u59, u60, u61, u62, u63, u64, u65, u66, u67, u68, u69, u70, u71, u72, u73, u74, u75, u76, u77, u78, u79, u80, u81, u82, u83, u84, u85, u86, u87, u88, u89, u90, u91, u92, u93, u94, u95, u96, u97, u98, u99, u100, u101, u102, u103, u104, u105, u106, u107, u108, u109, u110, u111, u112, u113, u114, u115, u116, u117, u118, u119, u120, u121, u122, u123, u124, u125, u126, u127, u128, u129, u130, u131, u132, u133, u134, u135, u136, u137, u138, u139, u140, u141, u142, u143, u144, u145, u146, u147, u148, u149, u150, u151, u152, u153, u154, u155, u156, u157, u158, u159, u160, u161, u162, u163, u164, u165, u166, u167, u168, u169, u170, u171, u172, u173, u174, u175, u176, u177, u178, u179, u180, u181, u182, u183, u184, u185, u186, u187, u188, u189, u190, u191, u192, u193, u194, u195, u196, u197, u198, u199, u200, u201, u202], defers := [] } W := by
  obtain ⟨_, hN1, hN2⟩ := HS.row
  dsimp only [sDrop, sFirst, bodyC, Try.f6] at Hr
  have HR : Hid _ := Hr
  have D1 : Hid (∀ W, KS w kd nm hp ao b o cap L g N W → DsC W ⟨kd, nm, hp, L⟩ (.agg #[.int .i64 kd, .string ⟨nm.toArray⟩, .string ⟨hp.toArray⟩, .slice ao L.length cap])) := fun W h => DsC.of h1 h2 h3 h.kb.r
  have D2 : Hid (∀ W, KS w kd nm hp ao b o cap L g N W → DsC W ⟨kd, nm, hp, L⟩ (.agg #[.int .i64 kd, .string ⟨nm.toArray⟩, .string ⟨hp.toArray⟩, .slice (some ⟨g, 0, none⟩) L.length N])) := fun W h => DsC.of (fun _ => rfl) (by omega) hN2 h.row.1
  have HK0 : Hid (KS w kd nm hp ao b o cap L g N W) := HS
  obtain ⟨c0, c1, c2, c3, _, hbl⟩ := HS.kb
  clear HS Hr
  dsimp only [sDrop, bodyC, Try.f6]
  go_upto_region 10 with fail
  have HX : Hid (KX w kd nm hp ao b o cap L g N W.heap.size (W.alloc (.cells #[.int .i64 kd, .string ⟨nm.toArray⟩, .string ⟨hp.toArray⟩, .slice (some ⟨g, 0, none⟩) L.length N] 24))) := ⟨HK0.out.below (bel1 _ _), by simp [go_sem], by simp [go_sem], by simp [go_sem], by simp [go_sem]⟩
  clear HK0 c0 c1 c2 c3 hbl
  generalize (W.alloc (.cells #[.int .i64 kd, .string ⟨nm.toArray⟩, .string ⟨hp.toArray⟩, .slice (some ⟨g, 0, none⟩) L.length N] 24)) = W1 at HX ⊢
  generalize W.heap.size = p at HX ⊢
  have F1 : Hid (∀ W, KX w kd nm hp ao b o cap L g N p W → Calls Try.prog 8 #[.agg #[.int .i64 kd, .string ⟨nm.toArray⟩, .string ⟨hp.toArray⟩, .slice (some ⟨g, 0, none⟩) L.length N]] W fun r w' => r = .returned (.int .i64 (chkD ⟨kd, nm, hp, L⟩)) ∧ KX w kd nm hp ao b o cap L g N p w') := fun W h => (ccheck_any _ _ W (D2.out W h.ks) sd).mono fun _ _ q => ⟨q.1, h.below q.2⟩
  have F2 : Hid (∀ W, KX w kd nm hp ao b o cap L g N p W → Calls Try.prog 9 #[.string ⟨nm.toArray⟩, .slice (some ⟨g, 0, none⟩) L.length N] W fun r w' => r = .returned (.string ⟨(printT nm L).toArray⟩) ∧ KX w kd nm hp ao b o cap L g N p w') := fun W h => (cprint_any nm _ g 0 N L (fun _ => rfl) (by omega) (fun a ha => by have := hv a ha; omega) hT W h.ks.row.1).mono fun _ _ q => ⟨q.1, h.below q.2⟩
  have F3 : Hid (∀ W, KX w kd nm hp ao b o cap L g N p W → Calls Try.prog 13 #[.agg #[.int .i64 kd, .string ⟨nm.toArray⟩, .string ⟨hp.toArray⟩, .slice (some ⟨g, 0, none⟩) L.length N], .agg #[.int .i64 kd, .string ⟨nm.toArray⟩, .string ⟨hp.toArray⟩, .slice ao L.length cap]] W fun r w' => r = .returned (.int .i64 0) ∧ KX w kd nm hp ao b o cap L g N p w') := fun W h => (ccompare_any _ _ _ _ W (D2.out W h.ks) (D1.out W h.ks)).mono fun _ _ q => ⟨by rw [q.1, ordD_self], h.below q.2⟩
  have F4 : Hid (∀ W, KX w kd nm hp ao b o cap L g N p W → Calls Try.prog 16 #[.agg #[.int .i64 kd, .string ⟨nm.toArray⟩, .string ⟨hp.toArray⟩, .slice (some ⟨g, 0, none⟩) L.length N], .agg #[.int .i64 kd, .string ⟨nm.toArray⟩, .string ⟨hp.toArray⟩, .slice ao L.length cap]] W fun r w' => r = .returned (.bool true) ∧ KX w kd nm hp ao b o cap L g N p w') := fun W h => (csame_any _ _ _ _ W (D2.out W h.ks).at (D1.out W h.ks).at).mono fun _ _ q => ⟨by rw [q.1]; simp, h.below q.2⟩
  have F5 : Hid (∀ W, KX w kd nm hp ao b o cap L g N p W → Calls Try.prog 17 #[.agg #[.int .i64 kd, .string ⟨nm.toArray⟩, .string ⟨hp.toArray⟩, .slice ao L.length cap]] W fun r w' => r = .returned (.int .i64 (chkD ⟨kd, nm, hp, L⟩)) ∧ KX w kd nm hp ao b o cap L g N p w') := fun W h => (dcheck_any _ _ W (D1.out W h.ks).at sd).mono fun _ _ q => ⟨q.1, h.below q.2⟩
  have F6 : Hid (∀ W, KX w kd nm hp ao b o cap L g N p W → Calls Try.prog 18 #[.string ⟨nm.toArray⟩, .slice ao L.length cap] W fun r w' => r = .returned (.string ⟨(printT nm L).toArray⟩) ∧ KX w kd nm hp ao b o cap L g N p w') := fun W h => (dprint_any nm _ b o cap L h1 (by omega) hv (by omega) W h.ks.kb.r).mono fun _ _ q => ⟨q.1, h.below q.2⟩
  have F7 : Hid (∀ W, KX w kd nm hp ao b o cap L g N p W → Calls Try.prog 14 #[.slice (some ⟨g, 0, none⟩) L.length N, .slice ao L.length cap] W fun r w' => r = .returned (.bool true) ∧ KX w kd nm hp ao b o cap L g N p w') := fun W h => (samel_any _ g 0 N L (fun _ => rfl) ao b o cap L h1 (by omega) W h.ks.row.1 h.ks.kb.r).mono fun _ _ q => ⟨by rw [q.1]; simp, h.below (by obtain ⟨n, e⟩ := q.2; rw [e]; exact below_drewN _ n)⟩
  have HP : Hid (∀ W, KX w kd nm hp ao b o cap L g N p W → Below w.heap.size w W) := fun W h => h.ks.kb.bl
  clear D1 D2 sd hv hT h1 h2 h3
  generalize chkD ⟨kd, nm, hp, L⟩ = z at F1 F5
  generalize printT nm L = sT at F2 F6
  obtain ⟨⟨⟨c0, c1, c2, c3, _, _⟩, _⟩, x0, x1, x2, x3⟩ := HX.out
  go_upto_region 11 with (go_at_call 8; refine (F1.out _ HX.out).mono ?_; rintro r w2 ⟨rfl, hX2⟩)
  clear c0 c1 c2 c3 x0 x1 x2 x3 HX F1
  have HX : Hid (KX w kd nm hp ao b o cap L g N p w2) := hX2
  clear hX2
  obtain ⟨⟨⟨c0, c1, c2, c3, _, _⟩, _⟩, x0, x1, x2, x3⟩ := HX.out
  go_upto_region 12 with (go_at_call 9; refine (F2.out _ HX.out).mono ?_; rintro r w3 ⟨rfl, hX2⟩)
  clear c0 c1 c2 c3 x0 x1 x2 x3 HX F2
  have HX : Hid (KX w kd nm hp ao b o cap L g N p w3) := hX2
  clear hX2
  obtain ⟨⟨⟨c0, c1, c2, c3, _, _⟩, _⟩, x0, x1, x2, x3⟩ := HX.out
  go_upto_region 13 with (go_at_call 13; refine (F3.out _ HX.out).mono ?_; rintro r w4 ⟨rfl, hX2⟩)
  clear c0 c1 c2 c3 x0 x1 x2 x3 HX F3
  have HX : Hid (KX w kd nm hp ao b o cap L g N p w4) := hX2
  clear hX2
  obtain ⟨⟨⟨c0, c1, c2, c3, _, _⟩, _⟩, x0, x1, x2, x3⟩ := HX.out
  go_upto_region 14 with (go_at_call 16; refine (F4.out _ HX.out).mono ?_; rintro r w5 ⟨rfl, hX2⟩)
  clear c0 c1 c2 c3 x0 x1 x2 x3 HX F4
  have HX : Hid (KX w kd nm hp ao b o cap L g N p w5) := hX2
  clear hX2
  obtain ⟨⟨⟨c0, c1, c2, c3, _, _⟩, _⟩, x0, x1, x2, x3⟩ := HX.out
  obtain ⟨y0, y1⟩ := HX.out.ks.spare
  have ez : (z != z) = false := by simp
  obtain ⟨M, hM⟩ : ∃ M, M = L.length + 1 := ⟨_, rfl⟩
  have hM' : IntKind.i64.wrap ((L.length : Int) + 1) = (M : Int) := by rw [IntKind.wrap_i64]; omega
  have HMM : Hid (M = L.length + 1) := hM
  go_upto_region 16 with (first
    | (go_at_call 17; refine (F5.out _ HX.out).mono ?_; rintro r w6 ⟨rfl, hX2⟩; have HX3 : Hid (KX w kd nm hp ao b o cap L g N p w6) := hX2; clear hX2 c0 c1 c2 c3 x0 x1 x2 x3 y0 y1 HX; obtain ⟨⟨⟨c0, c1, c2, c3, _, _⟩, _⟩, x0, x1, x2, x3⟩ := HX3.out; obtain ⟨y0, y1⟩ := HX3.out.ks.spare)
    | (go_at_call 18; refine (F6.out _ HX3.out).mono ?_; rintro r w7 ⟨rfl, hX2⟩; have HX4 : Hid (KX w kd nm hp ao b o cap L g N p w7) := hX2; clear hX2 c0 c1 c2 c3 x0 x1 x2 x3 y0 y1 HX3; obtain ⟨⟨⟨c0, c1, c2, c3, _, _⟩, _⟩, x0, x1, x2, x3⟩ := HX4.out; obtain ⟨y0, y1⟩ := HX4.out.ks.spare)
    | (go_at_call 14; refine (F7.out _ HX4.out).mono ?_; rintro r w8 ⟨rfl, hX2⟩; have HX5 : Hid (KX w kd nm hp ao b o cap L g N p w8) := hX2; clear hX2 c0 c1 c2 c3 x0 x1 x2 x3 y0 y1 HX4; obtain ⟨⟨⟨c0, c1, c2, c3, _, _⟩, _⟩, x0, x1, x2, x3⟩ := HX5.out; obtain ⟨y0, y1⟩ := HX5.out.ks.spare))
  rename_i hK
  exact HR.out _ _ _ _ _ _ _ _ _ _ _ _ _ _ _ _ _ _ _ _ _ _ _ _ _ _ _ _ _ _ _ _ _ _ _ _ _ _ _ _ _ _ _ _ _ _ _ _ _ _ _ _ _ _ _ _ _ _ _ _ _ _ _ _ _ _ _ _ _ _ _ _ _ _ _ _ _ _ _ _ _ _ _ _ _ _ _ _ _ _ _ _ _ _ _ _ _ _ _ _ _ _ _ _ _ _ _ _ _ _ _ _ _ _ _ _ _ _ _ _ _ _ _ _ _ _ _ _ _ _ _ _ _ _ _ _ _ _ _ _ _ _ _ _ _ _ _ _ _ _ _ _ _ _ _ _ _ _ _ _ _ _ _ _ _ _ _ _ _ _ _ _ _ _ _ _ _ _ _ _ _ _ _ _ _ _ _ _ _ _ _ _ _ _ _ _ _ _ _ _ _ _ _ hK (HP.out _ HX5.out)
end Go.Proofs.Ytmphajfhilpgeab
