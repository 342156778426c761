/- SlabMerges: the counts are written over. Own work of the verifier. -/
import Derived.Test.YtbgdmlekhobjdaaGreatMD
namespace Go.Proofs.YtbgdmlekhobjdaaGreat
open Go.RowKit
def a3 (c : Cn) : Cn := (c.1, (c.2 + 3) % 18446744073709551616)
def L3 (L : List Cn) (i : Nat) : List Cn := (L.take i).map a3 ++ L.drop i
theorem L3_len (L : List Cn) (i : Nat) (h : i ≤ L.length) : (L3 L i).length = L.length := by
  unfold L3
  rw [List.length_append, List.length_map, List.length_take, List.length_drop]
  omega
theorem fl_set3 : ∀ (M : List Cn) (i n : Nat) (h : i < M.length), (fl M).set (i * 2 + 1) (.int .u64 (n : Int)) = fl (M.set i (M[i].1, n))
  | c :: M, 0, n, _ => by simp [fl]
  | c :: M, i + 1, n, h => by
    have ih := fl_set3 M i n (by simpa using h)
    rw [show (i + 1) * 2 + 1 = (i * 2 + 1) + 1 + 1 by omega]
    simp only [fl, List.set_cons_succ, List.getElem_cons_succ, ih]
theorem L3_get (L : List Cn) (i : Nat) (h : i < L.length) (h' : i < (L3 L i).length) : (L3 L i)[i] = L[i] := by
  have e : (L3 L i)[i]? = L[i]? := by
    unfold L3
    rw [List.getElem?_append_right (by rw [List.length_map, List.length_take]; omega)]
    simp [Nat.min_eq_left (by omega : i ≤ L.length)]
  rw [List.getElem?_eq_getElem h', List.getElem?_eq_getElem h] at e
  exact Option.some.inj e
theorem L3_succ (L : List Cn) (i : Nat) (h : i < L.length) : (L3 L i).set i (a3 L[i]) = L3 L (i + 1) := by
  unfold L3
  rw [List.set_append_right _ _ (by rw [List.length_map, List.length_take]; omega)]
  rw [List.length_map, List.length_take, Nat.min_eq_left (by omega), Nat.sub_self, List.drop_eq_getElem_cons h, List.set_cons_zero]
  rw [List.take_succ_eq_append_getElem h, List.map_append, List.append_assoc]
  rfl
theorem L3_done (L : List Cn) : L3 L L.length = L.map a3 := by
  unfold L3
  simp
theorem wc_a3 {L : List Cn} (h : Wc L) : Wc (L.map a3) := fun c hc => by
  obtain ⟨d, hd, rfl⟩ := List.mem_map.1 hc
  have := h d hd
  exact ⟨this.1, this.2.1, Nat.mod_lt _ (by decide)⟩
theorem Gx.cell {g : Nat} {M : List Cn} {W : World} (h : Gx g M W) (i : Nat) (hi : i < M.length) : W.cell? ⟨g, i * 2 + 1, none⟩ = some (.int .u64 (M[i].2 : Int)) ∧ W.frozen? ⟨g, i * 2 + 1, none⟩ = false := by
  have hr := row_head (row_fl h) i hi
  rw [Nat.zero_add] at hr
  refine ⟨hr.2, ?_⟩
  have h' : W.heap[g]? = _ := h
  simp [World.frozen?, h']
theorem Gx.step {g : Nat} {L : List Cn} {i : Nat} {W : World} (h : Gx g (L3 L i) W) (hi : i < L.length) (_hw : L[i].2 < 18446744073709551616) : Gx g (L3 L (i + 1)) (W.setCell ⟨g, i * 2 + 1, none⟩ (.int .u64 (IntKind.u64.wrap ((L[i].2 : Int) + 3)))) := by
  have hl := L3_len L i (by omega)
  have h' : W.heap[g]? = some (.cells (fl (L3 L i ++ [(91, 0), (92, 0)])).toArray 45 (0, 0)) := h
  have e1 : IntKind.u64.wrap ((L[i].2 : Int) + 3) = (((L[i].2 + 3) % 18446744073709551616 : Nat) : Int) := by rw [IntKind.wrap_u64]; omega
  have hl2 : i < (L3 L i ++ [(91, 0), (92, 0)]).length := by rw [List.length_append]; omega
  have hs := fl_set3 (L3 L i ++ [(91, 0), (92, 0)]) i ((L[i].2 + 3) % 18446744073709551616) hl2
  have e2 : (L3 L i ++ [(91, 0), (92, 0)])[i]'hl2 = L[i] := by
    rw [List.getElem_append_left (by omega)]
    exact L3_get L i hi (by omega)
  rw [e2, List.set_append_left _ _ (by omega)] at hs
  have e3 := L3_succ L i hi
  unfold a3 at e3
  rw [e3] at hs
  show (W.setCell _ _).heap[g]? = _
  rw [e1, heap_setCell_same W g (i * 2 + 1) _ _ _ h', List.setIfInBounds_toArray, hs]
theorem ne_type {W : World} {j g : Nat} {cs cs' : Array Value} {t t' : TypeId} {z z' : Nat × Nat} (h : W.heap[j]? = some (.cells cs t z)) (h' : W.heap[g]? = some (.cells cs' t' z')) (hne : t ≠ t') : ¬ j = g := fun e => by
  subst e
  rw [h] at h'
  cases h'
  exact hne rfl
theorem SA.over {w : World} {N : Nat} {X Y : Rq} {La Lb : List Cn} {kx ky ka ga kb gb : Nat} {W V : World} (h : SA w N X Y La kx ky ka ga kb gb W) (hc : Chg (fun x => x = ga) W V) (hg : Gx ga Lb V) : SA w N X Y Lb kx ky ka ga kb gb V :=
  ⟨hc.at_ h.px (ne_type h.px h.gx (by decide)), hc.at_ h.py (ne_type h.py h.gx (by decide)), hc.at_ h.ax (ne_type h.ax h.gx (by decide)), hc.at_ h.ay (ne_type h.ay h.gx (by decide)), hg, hc.at_ h.gy h.ne, h.bel.trans (hc.below h.bel.size (fun x hx => by rw [hx]; exact h.a1)), h.a1, h.b1, h.a2, Nat.le_trans h.nz hc.size, h.ne, h.sum⟩
theorem Dv.At.over {D : Dv} {X Y : Rq} {A M : List Cn} {N ga : Nat} {W V : World} (h : D.At X Y A N W) (hc : Chg (fun x => x = ga) W V) (hg : Gx ga M W) (ha : ga < N) : D.At X Y A N V :=
  ⟨hc.at_ h.box (ne_type h.box hg (by decide)), hc.row h.own (fun x hx e => by have := (h.own.lt x hx).1; omega), h.mrg⟩
theorem Cv.At.over {C : Cv} {X Y : Rq} {A M : List Cn} {N ga : Nat} {W V : World} (h : C.At X Y A N W) (hc : Chg (fun x => x = ga) W V) (hg : Gx ga M W) (ha : ga < N) : C.At X Y A N V :=
  ⟨hc.at_ h.box (ne_type h.box hg (by decide)), hc.row h.own (fun x hx e => by have := (h.own.lt x hx).1; omega), h.mrg, h.hr, h.hq, h.er, h.eq⟩
theorem chg_more {S : Nat → Prop} {W V : World} {g j : Nat} {u : Value} (h : Chg S W V) (hS : S g) : Chg S W (V.setCell ⟨g, j, none⟩ u) := h.trans (chg_set V g j u) (fun x hx => Or.inl (by rw [hx]; exact hS))
set_option maxHeartbeats 16000000 in
set_option maxRecDepth 100000 in
theorem sm_over (w W : World) (N : Nat) (X Y : Rq) (kx ky ka ga kb gb : Nat) (D : Dv) (C1 C2 : Cv) (h : SA w N X Y X.L kx ky ka ga kb gb W) (hD : D.At X Y X.L N W) (h1 : C1.At X Y X.L N W) (h2 : C2.At X Y X.L N W) (n1 : (Value.slice C1.ao C1.m C1.cap).ownBlock = none ∨ (Value.slice C1.ao C1.m C1.cap).ownBlock ≠ (Value.slice C2.ao C2.m C2.cap).ownBlock) (oX : X.Ok) (oY : Y.Ok) (sy : SN w (.slice Y.ao Y.L.length Y.cap) Y.L) (hwN : w.heap.size ≤ N)
    (u0 u1 u4 u5 u11 u12 u13 u14 u15 u16 u17 u18 u19 u20 u21 u22 u23 u24 u25 u26 u27 u28 u29 u30 u31 u32 u33 u34 u35 u36 u37 u38 u39 u40 u41 u42 u43 u44 u45 u46 u47 u48 u49 u50 u51 u52 u53 u54 u55 u56 u57 u58 u59 u60 u61 u62 u63 u64 u65 u66 u67 u68 u69 u70 u71 u72 u73 u74 u75 u76 u77 u78 u79 u80 u81 u82 u83 u84 u85 u86 u87 u88 u89 u90 u91 u92 u93 u94 u95 u96 u97 u98 u99 u100 u101 u102 u103 u104 u105 u106 u107 u108 u109 u110 u111 u112 u113 u114 u115 u116 u117 u118 u119 u120 u121 u122 u123 u124 u125 u126 u127 u128 u129 u130 u131 u132 u133 u134 u135 u136 u137 u138 : Value) (K1 K2 : Act → World → Prop) (hK1 : ∀ a w1, Code.wp Tryz.prog (sDrop 13 (bodyC Tryz.f3.body)) (bodyPost Tryz.prog Tryz.f3 fun r w' => r = .returned (.bool true) ∧ Below w.heap.size w w') a w1 → K1 a w1) (hK2 : ∀ a w1, Code.wp Tryz.prog (sDrop 1 (sFirst (sDrop 12 (bodyC Tryz.f3.body)))) (Exit.then K1 (bodyPost Tryz.prog Tryz.f3 fun r w' => r = .returned (.bool true) ∧ Below w.heap.size w w')) a w1 → K2 a w1) :
    Code.wp Tryz.prog (sFirst (sFirst (sDrop 12 (bodyC Tryz.f3.body)))) (Exit.then K2 (Exit.then K1 (bodyPost Tryz.prog Tryz.f3 fun r w' => r = .returned (.bool true) ∧ Below w.heap.size w w'))) { tmps := #[u0, u1, (.pointer (some ⟨kx, 0, none⟩)), (.pointer (some ⟨ky, 0, none⟩)), u4, u5, (.pointer (some ⟨ka, 0, none⟩)), (.pointer (some ⟨kb, 0, none⟩)), (.pointer (some ⟨D.k, 0, none⟩)), (.pointer (some ⟨C1.k, 0, none⟩)), (.pointer (some ⟨C2.k, 0, none⟩)), u11, u12, u13, u14, u15, u16, u17, u18, u19, u20, u21, u22, u23, u24, u25, u26, u27, u28, u29, u30, u31, u32, u33, u34, u35, u36, u37, u38, u39, u40, u41, u42, u43, u44, u45, u46, u47, u48, u49, u50, u51, u52, u53, u54, u55, u56, u57, u58, u59, u60, u61, u62, u63, u64, u65, u66, u67, u68, u69, u70, u71, u72, u73, u74, u75, u76, u77, u78, u79, u80, u81, u82, u83, u84, u85, u86, u87, u88, u89, u90, u91, u92, u93, u94, u95, u96, u97, u98, u99, u100, u101, u102, u103, u104, u105, u106, u107, u108, u109, u110, u111, u112, u113, u114, u115, u116, u117, u118, u119, u120, u121, u122, u123, u124, u125, u126, u127, u128, u129, u130, u131, u132, u133, u134, u135, u136, u137, u138], defers := [] } W := by
  have HS := hid_of h
  have HD := hid_of hD
  have H1 := hid_of h1
  have H2 := hid_of h2
  have HN1 := hid_of n1
  have OX := hid_of oX
  have OY := hid_of oY
  have SY := hid_of sy
  have HWN := hid_of hwN
  have HG0 : Hid (Gx ga (L3 X.L 0) W) := by have q := h.gx; unfold Hid L3; simpa using q
  have hll : X.L.length ≤ 349525 := oX.hl
  clear h hD h1 h2 n1 oX oY sy hwN
  dsimp only [sDrop, sFirst, bodyC, Tryz.f3] at hK1 hK2 ⊢
  go_upto_region 14 with fail
  go_loopw [15] (fun x V => ∃ (i : Nat), i ≤ X.L.length ∧ x = .int .i64 (i : Int) ∧ Hid (Chg (fun x => x = ga) W V) ∧ Hid (Gx ga (L3 X.L i) V)) (fun x _ => X.L.length - (intOf x).toNat)
  case atStart => exact ⟨0, by omega, rfl, Chg.refl _ _, HG0⟩
  case round =>
    clear HG0
    obtain ⟨i, hi, rfl, HC, HG⟩ := hrel
    have x2 := (seven_cells (hid_of (HC.out.at_ HS.out.ax (ne_type HS.out.ax HS.out.gx (by decide))))).2.2.1
    by_cases hlt : i < X.L.length
    · have hlt' : (i : Int) < (X.L.length : Int) := by omega
      have hx := L3_len X.L i hi
      obtain ⟨c1, f1⟩ := HG.out.cell i (by omega)
      rw [L3_get X.L i hlt (by omega)] at c1
      have HGn := hid_of (HG.out.step hlt (OX.out.wc _ (List.getElem_mem hlt)).2.2)
      have HCn := hid_of (chg_more (j := i * 2 + 1) (u := .int .u64 (IntKind.u64.wrap ((X.L[i].2 : Int) + 3))) HC.out rfl)
      clear HG HC hx HS HD H1 H2
      generalize X.L[i].2 = nn at *
      go_wp2_with fail
      exact ⟨⟨i + 1, by omega, by go_num, HCn, HGn⟩, by simp [intOf]; omega⟩
    · have hlt' : ¬ (i : Int) < (X.L.length : Int) := by omega
      have hie : i = X.L.length := by omega
      subst hie
      have hG : Gx ga (X.L.map a3) wr := by rw [← L3_done]; exact HG.out
      have hS := HS.out.over HC.out hG
      have hD := HD.out.over HC.out HS.out.gx HS.out.a2
      have h1 := H1.out.over HC.out HS.out.gx HS.out.a2
      have h2 := H2.out.over HC.out HS.out.gx HS.out.a2
      clear HS HD H1 H2 HG HC hG
      go_upto_region 17 with fail
      rename_i hKe
      exact sm_last w _ N X Y (X.L.map a3) kx ky ka ga kb gb D C1 C2 hS hD h1 h2 HN1.out OX.out OY.out (by rw [List.length_map]) (wc_a3 OX.out.wc) SY.out HWN.out _ _ _ _ _ _ _ _ _ _ _ _ _ _ _ _ _ _ _ _ _ _ _ _ _ _ _ _ _ _ _ _ _ _ _ _ _ _ _ _ _ _ _ _ _ _ _ _ _ _ _ _ _ _ _ _ _ _ _ _ _ _ _ _ _ _ _ _ _ _ _ _ _ _ _ _ _ _ _ _ _ _ _ _ _ _ _ _ _ _ _ _ _ _ _ _ _ _ _ _ _ _ _ _ _ _ _ _ _ _ _ _ _ _ _ _ _ _ _ _ _ _ _ _ _ _ _ _ _ _ _ _ _ hKe
end Go.Proofs.YtbgdmlekhobjdaaGreat
