/- TWO LISTS AS ONE: the walk. Own work of the verifier. -/
import Derived.Test.YtgkdggcpplmnaaaGreatZAT
namespace Go.Proofs.YtgkdggcpplmnaaaGreat
open Go.RowKit Me

theorem keep3 {w W1 : World} {b o c p : Nat} {x y : Rv} (hx : C11 w b o x.1 x.2.1 x.2.2) (hy : C11 w c p y.1 y.2.1 y.2.2) (hb : Below w.heap.size w W1) : S3h w b o x c p y W1 := ⟨c11_bel hx hb, c11_bel hy hb, hb⟩
theorem keep3' {w W W1 : World} {b o c p : Nat} {x y : Rv} (hx : C11 w b o x.1 x.2.1 x.2.2) (hy : C11 w c p y.1 y.2.1 y.2.2) (hb : Below W.heap.size W W1) (h : S3h w b o x c p y W) : S3h w b o x c p y W1 := keep3 hx hy (bt h.2.2 hb)
/-- What one step of the merging holds on to. -/
abbrev S4h (w : World) (b o : Nat) (x : Rv) (W : World) : Prop := cC b o x.1 x.2.1 x.2.2 W ∧ Below w.heap.size w W
theorem keep4 {w W1 : World} {b o : Nat} {x : Rv} (hx : C11 w b o x.1 x.2.1 x.2.2) (hb : Below w.heap.size w W1) : S4h w b o x W1 := ⟨c11_bel hx hb, hb⟩
theorem lz_one {r : Rv} (h : r.2.1.oneCell' = true ∧ r.2.2.oneCell' = true) : Lz [r] := fun q hq => by
  rw [List.mem_singleton] at hq
  subst hq
  exact h
/-- The merging under way. -/
structure MG (w : World) (A B : List Rv) (i k : Nat) (v : Value) (O : List Rv) (W : World) : Prop where
  g : GV w.heap.size w v O W
  e : O ++ mAll (A.drop i) (B.drop k) = mAll A B
  l : O.length = i + k
theorem MG.left {w W : World} {A B : List Rv} {i k : Nat} {v : Value} {O : List Rv} {x : Rv} (h : MG w A B i k v O W) (hz : mAll (A.drop i) (B.drop k) = x :: mAll (A.drop (i + 1)) (B.drop k)) : ∀ v5 w5, GV w.heap.size w v5 (O ++ [x]) w5 → MG w A B (i + 1) k v5 (O ++ [x]) w5 := fun v5 w5 g => by
  refine ⟨g, ?_, by rw [List.length_append, h.l, List.length_singleton]; omega⟩
  rw [← h.e, hz, List.append_assoc]
  rfl
theorem MG.right {w W : World} {A B : List Rv} {i k : Nat} {v : Value} {O : List Rv} {x : Rv} (h : MG w A B i k v O W) (hz : mAll (A.drop i) (B.drop k) = x :: mAll (A.drop i) (B.drop (k + 1))) : ∀ v5 w5, GV w.heap.size w v5 (O ++ [x]) w5 → MG w A B i (k + 1) v5 (O ++ [x]) w5 := fun v5 w5 g => by
  refine ⟨g, ?_, by rw [List.length_append, h.l, List.length_singleton]; omega⟩
  rw [← h.e, hz, List.append_assoc]
  rfl
theorem Lf.next {b o : Nat} {R : List Rv} {i ac : Nat} {aa : Option Addr} (h : Lf b o R i aa ac) (hi : i < R.length) : Lf b o R (i + 1) (some ⟨b, o + i * 11 + 11, none⟩) (ac - 1) :=
  ⟨by omega, by have := h.c; omega, by have := h.m; omega, fun _ => Or.inr ⟨_, rfl⟩, fun _ => by rw [show o + i * 11 + 11 = o + (i + 1) * 11 by omega]⟩
theorem Lf.last {b o : Nat} {R : List Rv} {i : Nat} {aa : Option Addr} (h : Lf b o R i aa 1) (hi : i < R.length) (a : Addr) : Lf b o R (i + 1) (some a) 0 :=
  ⟨by omega, by have := h.c; omega, by omega, fun _ => Or.inr ⟨_, rfl⟩, fun k => by have := h.c; omega⟩
theorem RowR.drop {W : World} {b o : Nat} {R : List Rv} (h : RowR W b o R) (i : Nat) : RowR W b (o + i * 11) (R.drop i) := fun j hj => by
  rw [List.length_drop] at hj
  have := h (i + j) (by omega)
  rw [List.getElem_drop, show o + i * 11 + j * 11 = o + (i + j) * 11 by omega]
  exact this
theorem Lz.drop {R : List Rv} (h : Lz R) (i : Nat) : Lz (R.drop i) := fun r hr => h r (List.mem_of_mem_drop hr)
/-- The rest of a list, appended. -/
theorem run_rest {w W : World} {b o : Nat} {v : Value} {R Z : List Rv} {i ac : Nat} {aa : Option Addr} (hG : GV w.heap.size w v R W) (hL : Lf b o Z i aa ac) (hr : RowR w b o Z) (hz : Ls w Z) (hl : R.length ≤ 512) (hl2 : Z.length ≤ 256) (ty : TypeId) :
    ∃ v' w', (Builtin.append_ #[28, 28] ty #[v, .slice aa (Z.length - i) ac]).run Tryz.prog W = .ok v' w' ∧ GV w.heap.size w v' (R ++ Z.drop i) w' :=
  run_vals (b := b) (o := o + i * 11) hG rfl (by rw [List.length_drop]) hL.z (fun k => hL.s (by omega)) ((hr.below hG.below).drop i) (hz.lz.drop i) (by rw [List.length_drop]; omega) ty
set_option maxRecDepth 100000 in
set_option maxHeartbeats 8000000 in
theorem merge_walk (ao co : Option Addr) (b o cap c p cap' : Nat) (A B : List Rv) (w : World) (hA : Lf b o A 0 ao cap) (hB : Lf c p B 0 co cap') (rA : RowR w b o A) (rB : RowR w c p B) (lA : Ls w A) (lB : Ls w B) (sA : A.length ≤ 256) (sB : B.length ≤ 256) :
    Calls Tryz.prog 39 #[.slice ao A.length cap, .slice co B.length cap', .func (.func 40) #[] #[]] w fun e w' => ∃ v, e = .returned v ∧ GV w.heap.size w v (mAll A B) w' := by
  have HM0 : Hid (MG w A B 0 0 (.slice none 0 0) [] w) := ⟨GV.nil (Below.refl _ _) (Nat.le_refl _), rfl, rfl⟩
  have HA0 := hid_of hA
  have HB0 := hid_of hB
  have HRA := hid_of rA
  have HRB := hid_of rB
  have HLA := hid_of lA
  have HLB := hid_of lB
  have eA : A.length - 0 = A.length := Nat.sub_zero _
  have eB : B.length - 0 = B.length := Nat.sub_zero _
  have HE := hid_of (⟨eA, eB⟩ : _ ∧ _)
  clear hA hB rA rB lA lB eA eB
  go_enter Tryz.func39, Tryz.ntmps39
  go_upto_region 2 with fail
  go_loopw [0, 1, 7] (fun a d v W => ∃ (i k : Nat) (aa ca : Option Addr) (ac cc : Nat) (O : List Rv), a = .slice aa (A.length - i) ac ∧ d = .slice ca (B.length - k) cc ∧ Hid (Lf b o A i aa ac) ∧ Hid (Lf c p B k ca cc) ∧ Hid (MG w A B i k v O W)) (fun a d _ _ => slen a + slen d)
  case atStart => exact ⟨0, 0, ao, co, cap, cap', [], by rw [HE.out.1], by rw [HE.out.2], HA0, HB0, HM0⟩
  case round =>
    clear HM0 HA0 HB0 HE
    obtain ⟨i, k, aa, ca, ac, cc, O, rfl, rfl, HA, HB, HM⟩ := hrel
    have hA1 := HA.out.le
    have hB1 := HB.out.le
    by_cases hi : i < A.length
    · by_cases hk : k < B.length
      · obtain rfl := HA.out.s hi
        obtain rfl := HB.out.s hk
        have p1 : (0 : Int) < ((A.length - i : Nat) : Int) := by omega
        have p2 : (0 : Int) < ((B.length - k : Nat) : Int) := by omega
        have q1 : 0 < A.length - i := by omega
        have q2 : 0 < B.length - k := by omega
        have hxa := HRA.out i hi
        have hxb := HRB.out k hk
        have HP := hid_of (hxa.below HM.out.g.below)
        have HQ := hid_of (hxb.below HM.out.g.below)
        have HxA := hid_of hxa
        have HxB := hid_of hxb
        have i1 := head_ix b (o + i * 11) (A.length - i) ac q1
        have i2 := head_ix c (p + k * 11) (B.length - k) cc q2
        have hz := mAll_drop A B i k hi hk
        have HC : Hid (∀ W, S3h wr b (o + i * 11) A[i] c (p + k * 11) B[k] W → Calls Tryz.prog 40 #[vx A[i].1 A[i].2.1 A[i].2.2, vx B[k].1 B[k].2.1 B[k].2.2] W fun e w' => e = .returned (.int .i64 (La.ordD A[i].1.d B[k].1.d)) ∧ Below W.heap.size W w') := fun W h => cser_any A[i].1 B[k].1 _ _ W (VAt.below ⟨_, _, rfl, HLA.out _ (List.getElem_mem hi)⟩ (bt HM.out.g.below h.2.2)) (VAt.below ⟨_, _, rfl, HLB.out _ (List.getElem_mem hk)⟩ (bt HM.out.g.below h.2.2))
        have HzA := hid_of (HLA.out.lz _ (List.getElem_mem hi))
        have HzB := hid_of (HLB.out.lz _ (List.getElem_mem hk))
        have hac := HA.out.c
        have hcc := HB.out.c
        have hmc := HA.out.m
        have hmd := HB.out.m
        clear hxa hxb HRA HRB
        generalize hX : A[i] = x at *
        generalize hY : B[k] = y at *
        generalize La.ordD x.1.d y.1.d = z at *
        have HX := hid_of hX
        have HY := hid_of hY
        clear hX hY
        go_upto_region 3 with fail
        go_cut [24] from 16 to 23 (fun v W => v = .bool (decide (z ≤ 0)) ∧ Hid (Below wr.heap.size wr W))
        case first =>
          clear hz HM HA HB HLA HLB HzA HzB
          as_aux_lemma =>
            go_region_held3 (fun W => S3h wr b (o + i * 11) x c (p + k * 11) y W)
              (first | assumption | exact keep3' HP.out HQ.out (by assumption) (by assumption) | exact keep3 HP.out HQ.out (drew_bel _))
              (first
                | (go_at_call 40; with_reducible refine (HC.out _ (by first | assumption | exact keep3' HP.out HQ.out (by assumption) (by assumption) | exact keep3 HP.out HQ.out (drew_bel _))).mono ?_; rintro e w3 ⟨rfl, hb3⟩))
            rename_i hS3
            go_wp2_with fail
            go_meet
            exact ⟨rfl, hS3.2.2⟩
        case rest =>
        obtain ⟨rfl, HBc⟩ := hcut
        clear HC
        by_cases hz0 : z ≤ 0
        · rw [if_pos hz0] at hz
          have HG := hid_of (HM.out.g.keep HBc.out)
          have HO : Hid (O.length ≤ 1048576) := by have := HM.out.l; unfold Hid; omega
          have HZ := hid_of (lz_one HzA.out)
          have HMn := hid_of (HM.out.left hz)
          clear HP HQ HzB HzA hz HM HBc HLA HLB HX HY
          obtain ⟨n, hn⟩ : ∃ n, A.length - i = n := ⟨_, rfl⟩
          have HEn : Hid (A.length - (i + 1) = n - 1) := by unfold Hid; omega
          have Hm : Hid (A.length - i = n ∧ 0 < n) := ⟨hn, by omega⟩
          rw [hn] at p1 q1 hac i1 ⊢
          clear hn
          have f1 : (1 : Int) ≤ (n : Int) := by omega
          have f3 : 1 ≤ ac := by omega
          by_cases hac1 : ac = 1
          · subst hac1
            have hn1 : n = 1 := by omega
            have HLn := hid_of (HA.out.last hi)
            clear HA
            subst hn1
            go_upto_region 4 with fail
            go_region_held3 (fun W => S4h w b (o + i * 11) x W)
              (first | assumption | exact keep4 HxA.out (GV.below (by assumption)) | exact keep4 HxA.out (HG.out.keep (drew_bel _)).below | exact keep4 HxA.out ((HG.out.keep (drew_bel _)).keep (bel1 _ _)).below)
              (first
                | (refine step_val (by rfl) _ _ (by rfl) (by rfl) ((HG.out.keep (drew_bel _)).keep (bel1 _ _)) HO.out _ (by rfl) x HZ.out (new_1 _ _) ?_; intro v5 w5 hG5))
            all_goals
              go_wp2_with fail
              refine ⟨⟨i + 1, k, _, _, _, _, O ++ [x], by rw [HEn.out], rfl, HLn.out _, HB, HMn.out _ _ hG5⟩, ?_⟩
              have := Hm.out
              simp only [slen]
              omega
          · have g1 : ¬ (ac : Int) = 1 := by omega
            have HLn := hid_of (HA.out.next hi)
            clear HA
            go_upto_region 4 with fail
            go_region_held3 (fun W => S4h w b (o + i * 11) x W)
              (first | assumption | exact keep4 HxA.out (GV.below (by assumption)) | exact keep4 HxA.out (HG.out.keep (drew_bel _)).below | exact keep4 HxA.out ((HG.out.keep (drew_bel _)).keep (bel1 _ _)).below)
              (first
                | (refine step_val (by rfl) _ _ (by rfl) (by rfl) ((HG.out.keep (drew_bel _)).keep (bel1 _ _)) HO.out _ (by rfl) x HZ.out (new_1 _ _) ?_; intro v5 w5 hG5))
            all_goals
              go_wp2_with fail
              refine ⟨⟨i + 1, k, _, _, _, _, O ++ [x], by rw [HEn.out], rfl, HLn.out, HB, HMn.out _ _ hG5⟩, ?_⟩
              have := Hm.out
              simp only [slen]
              omega
        · rw [if_neg hz0] at hz
          have HG := hid_of (HM.out.g.keep HBc.out)
          have HO : Hid (O.length ≤ 1048576) := by have := HM.out.l; unfold Hid; omega
          have HZ := hid_of (lz_one HzB.out)
          have HMn := hid_of (HM.out.right hz)
          clear HP HQ HzB HzA hz HM HBc HLA HLB HX HY
          obtain ⟨n, hn⟩ : ∃ n, B.length - k = n := ⟨_, rfl⟩
          have HEn : Hid (B.length - (k + 1) = n - 1) := by unfold Hid; omega
          have Hm : Hid (B.length - k = n ∧ 0 < n) := ⟨hn, by omega⟩
          rw [hn] at p2 q2 hcc i2 ⊢
          clear hn
          have f1 : (1 : Int) ≤ (n : Int) := by omega
          have f3 : 1 ≤ cc := by omega
          by_cases hac1 : cc = 1
          · subst hac1
            have hn1 : n = 1 := by omega
            have HLn := hid_of (HB.out.last hk)
            clear HB
            subst hn1
            go_upto_region 5 with fail
            go_region_held3 (fun W => S4h w c (p + k * 11) y W)
              (first | assumption | exact keep4 HxB.out (GV.below (by assumption)) | exact keep4 HxB.out (HG.out.keep (drew_bel _)).below | exact keep4 HxB.out ((HG.out.keep (drew_bel _)).keep (bel1 _ _)).below)
              (first
                | (refine step_val (by rfl) _ _ (by rfl) (by rfl) ((HG.out.keep (drew_bel _)).keep (bel1 _ _)) HO.out _ (by rfl) y HZ.out (new_1 _ _) ?_; intro v5 w5 hG5))
            all_goals
              go_wp2_with fail
              refine ⟨⟨i, k + 1, _, _, _, _, O ++ [y], rfl, by rw [HEn.out], HA, HLn.out _, HMn.out _ _ hG5⟩, ?_⟩
              have := Hm.out
              simp only [slen]
              omega
          · have g1 : ¬ (cc : Int) = 1 := by omega
            have HLn := hid_of (HB.out.next hk)
            clear HB
            go_upto_region 5 with fail
            go_region_held3 (fun W => S4h w c (p + k * 11) y W)
              (first | assumption | exact keep4 HxB.out (GV.below (by assumption)) | exact keep4 HxB.out (HG.out.keep (drew_bel _)).below | exact keep4 HxB.out ((HG.out.keep (drew_bel _)).keep (bel1 _ _)).below)
              (first
                | (refine step_val (by rfl) _ _ (by rfl) (by rfl) ((HG.out.keep (drew_bel _)).keep (bel1 _ _)) HO.out _ (by rfl) y HZ.out (new_1 _ _) ?_; intro v5 w5 hG5))
            all_goals
              go_wp2_with fail
              refine ⟨⟨i, k + 1, _, _, _, _, O ++ [y], rfl, by rw [HEn.out], HA, HLn.out, HMn.out _ _ hG5⟩, ?_⟩
              have := Hm.out
              simp only [slen]
              omega
      · have p1 : (0 : Int) < ((A.length - i : Nat) : Int) := by omega
        have e2 : B.length - k = 0 := by omega
        have HR1 := hid_of (fun ty => run_rest HM.out.g HA.out HRA.out HLA.out (by have := HM.out.l; omega) sA ty)
        have HR2 : Hid (∀ v5 w5 ty, GV w.heap.size w v5 (O ++ A.drop i) w5 → ∃ v' w', (Builtin.append_ #[28, 28] ty #[v5, .slice ca (B.length - k) cc]).run Tryz.prog w5 = .ok v' w' ∧ GV w.heap.size w v' (O ++ A.drop i ++ B.drop k) w') := fun v5 w5 ty g => run_rest g HB.out HRB.out HLB.out (by rw [List.length_append, List.length_drop]; have := HM.out.l; omega) sB ty
        have HF : Hid (O ++ A.drop i ++ B.drop k = mAll A B) := by
          have := HM.out.e
          rw [List.drop_eq_nil_of_le (show B.length ≤ k by omega), mAll_nil] at this
          rw [List.drop_eq_nil_of_le (show B.length ≤ k by omega), List.append_nil]
          exact this
        rw [e2] at HR2 ⊢
        clear HA HB HM HRA HRB HLA HLB
        go_wp2_with (first
          | (at_builtin; refine wpList_run _ rfl _ _ 28 rfl _ _ rfl rfl (HR1.out _) ?_; intro v5 w5 hG5)
          | (at_builtin; refine wpList_run _ rfl _ _ 28 rfl _ _ rfl rfl (HR2.out _ _ _ hG5) ?_; intro v6 w6 hG6))
        go_ret
        rw [HF.out] at hG6
        exact ⟨_, rfl, hG6⟩
    · have e1 : A.length - i = 0 := by omega
      have HR1 := hid_of (fun ty => run_rest HM.out.g HA.out HRA.out HLA.out (by have := HM.out.l; omega) sA ty)
      have HR2 : Hid (∀ v5 w5 ty, GV w.heap.size w v5 (O ++ A.drop i) w5 → ∃ v' w', (Builtin.append_ #[28, 28] ty #[v5, .slice ca (B.length - k) cc]).run Tryz.prog w5 = .ok v' w' ∧ GV w.heap.size w v' (O ++ A.drop i ++ B.drop k) w') := fun v5 w5 ty g => run_rest g HB.out HRB.out HLB.out (by rw [List.length_append, List.length_drop]; have := HM.out.l; omega) sB ty
      have HF : Hid (O ++ A.drop i ++ B.drop k = mAll A B) := by
        have := HM.out.e
        rw [List.drop_eq_nil_of_le (show A.length ≤ i by omega), mAll] at this
        rw [List.drop_eq_nil_of_le (show A.length ≤ i by omega), List.append_nil]
        exact this
      rw [e1] at HR1 ⊢
      clear HA HB HM HRA HRB HLA HLB
      go_wp2_with (first
        | (at_builtin; refine wpList_run _ rfl _ _ 28 rfl _ _ rfl rfl (HR1.out _) ?_; intro v5 w5 hG5)
        | (at_builtin; refine wpList_run _ rfl _ _ 28 rfl _ _ rfl rfl (HR2.out _ _ _ hG5) ?_; intro v6 w6 hG6))
      go_ret
      rw [HF.out] at hG6
      exact ⟨_, rfl, hG6⟩
end Go.Proofs.YtgkdggcpplmnaaaGreat
