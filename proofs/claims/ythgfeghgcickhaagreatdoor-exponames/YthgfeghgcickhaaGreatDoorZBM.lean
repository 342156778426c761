/- WHICH SNAPSHOTS MAY BE: Check, the code's. Own work of the verifier. -/
import Derived.Test.YthgfeghgcickhaaGreatDoorZBL
import Derived.Test.YthgfeghgcickhaaGreatDoorZBD
import Derived.Deep.RegionHeld3
namespace Go.Proofs.YthgfeghgcickhaaGreatDoor
open Go.RowKit Me

theorem RowV.take {W : World} {b o : Nat} {L : List Vl} (h : RowV W b o L) (i : Nat) : RowV W b o (L.take i) := fun j hj => by
  rw [List.length_take] at hj
  have := h j (by omega)
  rw [List.getElem_take]
  exact this
theorem RowV.drop {W : World} {b o : Nat} {L : List Vl} (h : RowV W b o L) (i : Nat) : RowV W b (o + i * 11) (L.drop i) := fun j hj => by
  rw [List.length_drop] at hj
  have := h (i + j) (by omega)
  rw [List.getElem_drop, show o + i * 11 + j * 11 = o + (i + j) * 11 by omega]
  exact this
/-- What the loop holds on to. -/
structure KS (w : World) (ao : Option Addr) (b o cap : Nat) (s : Sn) (W : World) : Prop where
  c0 : W.cell? ⟨w.heap.size, 0, none⟩ = some (.int .i64 s.p)
  c1 : W.cell? ⟨w.heap.size, 1, none⟩ = some (.slice ao s.vs.length cap)
  r : RowV W b o s.vs
  bl : Below w.heap.size w W
theorem KS.below {w W W1 : World} {ao : Option Addr} {b o cap : Nat} {s : Sn} (h : KS w ao b o cap s W) (hb : Below W.heap.size W W1) : KS w ao b o cap s W1 := ⟨cellB hb h.c0, cellB hb h.c1, h.r.below hb, bt h.bl hb⟩
abbrev S9c (w : World) (ao : Option Addr) (b o cap : Nat) (s : Sn) (c : Nat) (y : Vl) (lw cw : Value) (W : World) : Prop := W.cell? ⟨w.heap.size, 0, none⟩ = some (.int .i64 s.p) ∧ W.cell? ⟨w.heap.size, 1, none⟩ = some (.slice ao s.vs.length cap) ∧ cC b c y lw cw W ∧ KS w ao b o cap s W ∧ KR b c y lw cw W
theorem keep9 {w W W1 : World} {ao : Option Addr} {b o cap : Nat} {s : Sn} {c : Nat} {y : Vl} {lw cw : Value} (hb : Below W.heap.size W W1) (h : S9c w ao b o cap s c y lw cw W) : S9c w ao b o cap s c y lw cw W1 := by
  have h1 := h.2.2.2.1.below hb
  have h2 := h.2.2.2.2.below hb
  exact ⟨h1.c0, h1.c1, h2.c.cC, h1, h2⟩
set_option maxRecDepth 100000 in
set_option maxHeartbeats 8000000 in
theorem check_any (s : Sn) (v : Value) (h : SnW s) (w : World) (hv : SnAt w s v) :
    Calls Tryz.prog 8 #[v] w fun e w' => e = two (chkS s).1 ((chkS s).2 : Nat) ∧ Below w.heap.size w w' := by
  obtain ⟨u, rfl, hu⟩ := hv
  obtain ⟨ao, b, o, cap, rfl, hao, hcap, hcap2, hr⟩ := hu.open
  have HK : Hid (∀ T, KS w ao b o cap s (w.alloc (.cells #[.int .i64 s.p, .slice ao s.vs.length cap, .int .u64 (s.r : Int)] T))) := fun T => ⟨by simp [go_sem], by simp [go_sem], hr.below (bel1 _ _), bel1 _ _⟩
  have HW := hid_of h.vs
  clear hu hr h
  unfold chkS
  by_cases h1 : s.p < 1
  · rw [if_pos (Or.inl h1)]
    clear HK HW
    as_aux_lemma =>
      go_enter Tryz.func8, Tryz.ntmps8
      go_wp2_with fail
      go_ret2
      exact ⟨rfl, bel1 w _⟩
  by_cases h2 : 14 < s.p
  · rw [if_pos (Or.inr h2)]
    clear HK HW
    as_aux_lemma =>
      go_enter Tryz.func8, Tryz.ntmps8
      go_wp2_with fail
      go_ret2
      exact ⟨rfl, bel1 w _⟩
  rw [if_neg (by omega)]
  by_cases h3 : 256 < s.vs.length
  · rw [if_pos h3]
    have h3' : (256 : Int) < (s.vs.length : Int) := by omega
    clear HK HW
    as_aux_lemma =>
      go_enter Tryz.func8, Tryz.ntmps8
      go_wp2_with fail
      go_ret2
      exact ⟨rfl, bel1 w _⟩
  rw [if_neg h3]
  have h3' : ¬ (256 : Int) < (s.vs.length : Int) := by omega
  obtain ⟨R, hR⟩ : ∃ R, R = chkV s.p none s.vs 0 := ⟨_, rfl⟩
  rw [← hR]
  have HR0 : Hid (R = chkV s.p (prvV s.vs 0) (s.vs.drop 0) 0) := hR
  clear hR
  go_enter Tryz.func8, Tryz.ntmps8
  go_upto_region 6 with fail
  go_loopw [21] (fun x W => ∃ i : Nat, i ≤ s.vs.length ∧ x = .int .i64 (i : Int) ∧ Hid (R = chkV s.p (prvV s.vs i) (s.vs.drop i) i) ∧ Hid (KS w ao b o cap s W)) (fun x _ => s.vs.length - (intOf x).toNat)
  case atStart => exact ⟨0, by omega, rfl, HR0, HK.out _⟩
  case round =>
    clear HK HR0
    obtain ⟨i, hi, rfl, HR, HK⟩ := hrel
    by_cases hlt : i < s.vs.length
    · have hlt' : (i : Int) < (s.vs.length : Int) := by omega
      obtain rfl := hao (by intro e; rw [e] at hlt; simp at hlt)
      obtain ⟨lw, cw, g1, g2, g3⟩ := HK.out.r i hlt
      have hS0 := (⟨HK.out.c0, HK.out.c1, g1.cC, HK.out, ⟨g1, g2, g3⟩⟩ : S9c w (some ⟨b, o, none⟩) b o cap s (o + i * 11) s.vs[i] lw cw wr)
      have hlen : (s.vs.take i).length = i := by rw [List.length_take]; omega
      have HC : Hid (∀ W, S9c w (some ⟨b, o, none⟩) b o cap s (o + i * 11) s.vs[i] lw cw W → Calls Tryz.prog 11 #[.int .i64 s.p, .slice (some ⟨b, o, none⟩) i cap, vx s.vs[i] lw cw] W fun e w' => e = .returned (.int .i64 (chk1 s.p (prvV s.vs i) s.vs[i])) ∧ Below W.heap.size W w') := fun W k => by
        have := cvalue_any s.p (some ⟨b, o, none⟩) b o cap (s.vs.take i) (fun _ => rfl) (by omega) s.vs[i] (vx s.vs[i] lw cw) (HW.out _ (List.getElem_mem hlt)) W (k.2.2.2.1.r.take i) k.2.2.2.2.at
        rw [hlen] at this
        exact this
      have hS := HR.out
      rw [chkV_drop s.p s.vs i hlt] at hS
      have hix := index_val b o s.vs.length cap i (i : Int) rfl hlt
      have hic : (i : Int) ≤ (cap : Int) := by omega
      clear HR HK g1 g2 g3 hlen HW hao
      generalize chk1 s.p (prvV s.vs i) s.vs[i] = z at *
      generalize s.vs[i] = y at *
      as_aux_lemma =>
      go_upto_region 8 with fail
      go_cut [5] from 24 to 35 (fun x W => x = .int .i64 z ∧ Hid (KS w (some ⟨b, o, none⟩) b o cap s W))
      case first =>
        clear hS
        as_aux_lemma =>
          go_region_held3 (fun W => S9c w (some ⟨b, o, none⟩) b o cap s (o + i * 11) y lw cw W)
            (first | assumption | exact keep9 (by assumption) (by assumption) | exact keep9 (drew_bel _) hS0)
            (first
              | (go_at_call 11; with_reducible refine (HC.out _ (by first | assumption | exact keep9 (by assumption) (by assumption) | exact keep9 (drew_bel _) hS0)).mono ?_; rintro e w3 ⟨rfl, hb3⟩))
          rename_i hS3
          go_wp2_with fail
          go_meet
          exact ⟨rfl, hS3.2.2.2.1⟩
      case rest =>
      obtain ⟨rfl, HK⟩ := hcut
      clear hS0 HC
      by_cases hz : z = 0
      · rw [if_neg (by simpa using hz)] at hS
        have hz' : (z != 0) = false := by simpa using hz
        have HS := hid_of hS
        clear hS hz
        as_aux_lemma =>
          go_wp2_with fail
          exact ⟨⟨i + 1, by omega, by go_num, HS, HK⟩, by simp [intOf]; omega⟩
      · rw [if_pos hz] at hS
        have hz' : (z != 0) = true := by simpa using hz
        have HS := hid_of hS
        clear hS hz
        as_aux_lemma =>
          go_wp2_with fail
          go_ret2
          exact ⟨by rw [HS.out]; rfl, HK.out.bl⟩
    · have hlt' : ¬ (i : Int) < (s.vs.length : Int) := by omega
      have hS := HR.out
      rw [List.drop_eq_nil_of_le (by omega)] at hS
      have HS : Hid (R = (0, 0)) := by unfold Hid; rw [hS]; cases prvV s.vs i <;> rfl
      clear HR hS HW
      as_aux_lemma =>
        go_wp2_with fail
        go_ret2
        exact ⟨by rw [HS.out]; rfl, HK.out.bl⟩
end Go.Proofs.YthgfeghgcickhaaGreatDoor
/- THE PAGE: lines one behind the other; numbers; bucket, count, counter, family, head. Own work of the verifier. -/
namespace Go.Proofs.YthgfeghgcickhaaGreatDoor
open Go.RowKit Me

/-- Lines written one behind the other, as long as the text is short enough. -/
def wrL (T : List UInt8) : List (List UInt8) → List UInt8 × Bool
  | [] => (T, true)
  | l :: r => if fitB (T ++ l) then wrL (T ++ l) r else (T ++ l, false)
theorem wrL_app (A C : List (List UInt8)) : ∀ T, wrL T (A ++ C) = if (wrL T A).2 then wrL (wrL T A).1 C else wrL T A := by
  induction A with
  | nil => intro T; simp [wrL]
  | cons l r ih =>
    intro T
    simp only [List.cons_append, wrL]
    split
    · exact ih _
    · rename_i h; simp
theorem wrL_one (T l : List UInt8) : wrL T [l] = (T ++ l, fitB (T ++ l)) := by
  simp only [wrL]
  split
  · rename_i h; rw [h]
  · rename_i h; simp only [Bool.not_eq_true] at h; rw [h]
theorem wrL_fit (A : List (List UInt8)) : ∀ T, fitB T = true → (wrL T A).2 = true → fitB (wrL T A).1 = true := by
  induction A with
  | nil => intro T h _; exact h
  | cons l r ih =>
    intro T h
    simp only [wrL]
    split
    · rename_i k; exact ih _ k
    · intro k; cases k
theorem wrL_flat (A : List (List UInt8)) : ∀ T, (wrL T A).2 = true → (wrL T A).1 = T ++ A.flatten := by
  induction A with
  | nil => intro T _; simp [wrL]
  | cons l r ih =>
    intro T
    simp only [wrL]
    split
    · intro k; rw [ih _ k]; simp
    · intro k; cases k
theorem wrL_all (A : List (List UInt8)) : ∀ T, (wrL T A).2 = true ↔ A = [] ∨ fitB (T ++ A.flatten) = true := by
  induction A with
  | nil => intro T; simp [wrL]
  | cons l r ih =>
    intro T
    simp only [wrL]
    have key : fitB (T ++ (l :: r).flatten) = true → fitB (T ++ l) = true := by
      unfold fitB
      simp only [decide_eq_true_eq, List.flatten_cons, List.length_append]
      omega
    split
    · rename_i k
      rw [ih]
      constructor
      · rintro (rfl | h)
        · right; simpa using k
        · right; simpa using h
      · rintro (h | h)
        · cases h
        · right; simpa using h
    · rename_i k
      constructor
      · intro h; cases h
      · rintro (h | h)
        · cases h
        · exact absurd (key h) k
theorem fit_len {T : List UInt8} (h : fitB T = true) : T.length ≤ 4194304 := by
  unfold fitB at h
  simp only [decide_eq_true_eq] at h
  omega
theorem digits_t (n : Nat) (hn : n < 18446744073709551616) (w : World) (ht : Wi.Tab w) :
    Calls Tryz.prog 14 #[.int .u64 (n : Int)] w fun e w' => e = .returned (.string ⟨(Lib.decDigits n).toArray⟩) ∧ Below w.heap.size w w' := by
  have H : La.HidC _ _ _ _ _ := Wi.fmt_any (n : Int) (by omega) (by omega) w ht
  rw [Int.toNat_natCast] at H
  go_enter Tryz.func14, Tryz.ntmps14
  go_wp2_with fail
  refine (H.out).mono ?_
  rintro e w1 ⟨rfl, hb⟩
  go_wp2_with fail
  go_ret
  exact ⟨rfl, hb⟩
theorem digits_len (n : Nat) (hn : n < 18446744073709551616) : (Lib.decDigits n).length ≤ 20 := by
  rw [Lib.decDigits_length]
  exact Wi.nDigits_le_pow 19 n (by rw [show (10 : Nat) ^ (19 + 1) = 100000000000000000000 from by decide]; omega)
theorem belN {a w : World} (o : Obj) (h : Below a.heap.size a w) : Below a.heap.size a (w.alloc o) := bt h (bel1 _ _)
theorem belD {a w : World} (h : Below a.heap.size a w) : Below a.heap.size a w.drew := bel_drewB h
abbrev bx4 (b : Nat) (d : La.Ds) (lv : Value) (W : World) : Prop := W.cell? ⟨b, 0, none⟩ = some (.int .i64 d.kind) ∧ W.cell? ⟨b, 1, none⟩ = some (.string ⟨d.name.toArray⟩) ∧ W.cell? ⟨b, 2, none⟩ = some (.string ⟨d.help.toArray⟩) ∧ W.cell? ⟨b, 3, none⟩ = some lv
theorem bx4_of {W : World} {b : Nat} {d : La.Ds} {lv : Value} (h : W.heap[b]? = some (.cells #[.int .i64 d.kind, .string ⟨d.name.toArray⟩, .string ⟨d.help.toArray⟩, lv] 33)) : bx4 b d lv W := by
  refine ⟨?_, ?_, ?_, ?_⟩ <;> simp [World.cell?, h]
theorem bx4_bel {b : Nat} {d : La.Ds} {lv : Value} {W W1 : World} (hb : Below W.heap.size W W1) (h : bx4 b d lv W) : bx4 b d lv W1 := ⟨cellB hb h.1, cellB hb h.2.1, cellB hb h.2.2.1, cellB hb h.2.2.2⟩
end Go.Proofs.YthgfeghgcickhaaGreatDoor
/- THE PAGE: count, counter, family, head. Own work of the verifier. -/
namespace Go.Proofs.YthgfeghgcickhaaGreatDoor
open Go.RowKit Me

theorem cB_of {W : World} {b : Nat} {x : Vl} {lv cv : Value} (h : W.heap[b]? = some (.cells (vc x lv cv) 39)) : cB b x lv cv W := by
  refine ⟨?_, ?_, ?_, ?_, ?_, ?_, ?_, ?_, ?_, ?_, ?_⟩ <;> simp [World.cell?, h]
theorem cB_bel {b : Nat} {x : Vl} {lv cv : Value} {W W1 : World} (hb : Below W.heap.size W W1) (h : cB b x lv cv W) : cB b x lv cv W1 := by
  obtain ⟨h0, h1, h2, h3, h4, h5, h6, h7, h8, h9, ha⟩ := h
  exact ⟨cellB hb h0, cellB hb h1, cellB hb h2, cellB hb h3, cellB hb h4, cellB hb h5, cellB hb h6, cellB hb h7, cellB hb h8, cellB hb h9, cellB hb ha⟩
theorem itoa_len {t : Int} (h : InR t) : (Lib.itoa t).length ≤ 40 := by
  obtain ⟨h0, h1⟩ := h
  have h3 := Wi.dec_len (Wi.mag t).toNat (by unfold Wi.mag; split <;> omega)
  by_cases k : t < 0
  · rw [Wi.itoa_neg' k, List.length_cons]; omega
  · rw [Wi.itoa_pos' k]; omega
set_option maxRecDepth 100000 in
set_option maxHeartbeats 400000 in
theorem counter_any (u : World) (pb : Nat) (p : Int) (T : List UInt8) (x : Vl) (lv cv : Value) (w : World) (h : Pg u pb w p T w) (ht : Wi.Tab u) (hl : SLb u lv x.d.labels) (hc : SN u cv x.cs) (hs : Sho x.d []) (hx : VW x) (hT : fitB T = true) :
    Calls Tryz.prog 22 #[.pointer (some ⟨pb, 0, none⟩), vx x lv cv] w fun e w' => e = .returned (.bool (fitB (T ++ seT x.d [] [] (Lib.itoa x.t)))) ∧ Pg u pb w p (T ++ seT x.d [] [] (Lib.itoa x.t)) w' := by
  have HD : Hid (∀ w W, Pg u pb w p T W → Calls Tryz.prog 39 #[.agg #[.int .i64 (hiOf x.t), .int .u64 (loOf x.t)]] W fun e w' => e = .returned (.string ⟨(Lib.itoa x.t).toArray⟩) ∧ Below W.heap.size W w') := fun w W k => by have q := Wi.print_any _ _ (wf_of hx.t) W (ht.below k.st); rw [val_hl] at q; exact q
  have HS : Hid (∀ w W, Pg u pb w p T W → Calls Tryz.prog 38 #[.pointer (some ⟨pb, 0, none⟩), dsV x.d lv, .string ⟨#[]⟩, .string ⟨(Lib.itoa x.t).toArray⟩, .slice none 0 0] W fun e w' => e = .returned (.bool (fitB (T ++ seT x.d [] [] (Lib.itoa x.t)))) ∧ Pg u pb w p (T ++ seT x.d [] [] (Lib.itoa x.t)) w') := fun w W k1 => by
    refine Calls.mono (series_any u pb p T x.d lv _ [] (Lib.itoa x.t) [] W k1.re hl (Or.inl ⟨rfl, rfl⟩) hs (by decide) (by have := itoa_len hx.t; omega) (by have := fit_len hT; omega)) ?_
    rintro e w' ⟨rfl, q⟩
    exact ⟨rfl, k1.then q⟩
  have HP := hid_of h
  obtain ⟨ao, cap, rfl⟩ := hl.form
  obtain ⟨co, ccap, rfl⟩ := SN.form hc
  clear h ht hl hs hx hT hc
  generalize T ++ seT x.d [] [] (Lib.itoa x.t) = R at HS ⊢
  generalize Lib.itoa x.t = D at HS HD
  go_enter Tryz.func22, Tryz.ntmps22
  go_upto_region 1 with fail
  have hN0 := new_1 w (.cells (vc x (.slice ao x.d.labels.length cap) (.slice co x.cs.length ccap)) 39)
  have HP0 := hid_of (HP.out.alloc (.cells (vc x (.slice ao x.d.labels.length cap) (.slice co x.cs.length ccap)) 39))
  have hne : w.heap.size ≠ pb := by have := HP.out.lt; omega
  generalize w.alloc (.cells (vc x (.slice ao x.d.labels.length cap) (.slice co x.cs.length ccap)) 39) = W0 at *
  have HKp : Hid (∀ W1, Below W0.heap.size W0 W1 → cB w.heap.size x (.slice ao x.d.labels.length cap) (.slice co x.cs.length ccap) W1) := fun W1 hb => cB_bel hb (cB_of hN0)
  have HKq : Hid (∀ X W1, Pg u pb W0 p X W1 → cB w.heap.size x (.slice ao x.d.labels.length cap) (.slice co x.cs.length ccap) W1) := fun X W1 k => cB_of (k.cells hN0 hne (by decide))
  have HPr := hid_of HP0.out.re
  clear hN0 HP hne
  go_region_held3 (fun W => cB w.heap.size x (.slice ao x.d.labels.length cap) (.slice co x.cs.length ccap) W)
    (first | (with_reducible exact HKq.out _ _ hPz) | ((with_reducible refine HKp.out _ ?_); repeat (first | with_reducible exact hB9 | with_reducible exact Below.refl _ _ | with_reducible refine belD ?_ | with_reducible refine belN _ ?_)))
    (first
      | (go_at_call 39; (with_reducible refine Calls.mono (HD.out _ _ (HPr.out.below (by repeat (first | with_reducible exact Below.refl _ _ | with_reducible refine belD ?_ | with_reducible refine belN _ ?_)))) ?_); rintro e w9 ⟨rfl, hb9⟩; have hB9 : Below W0.heap.size W0 w9 := bt (by repeat (first | with_reducible exact Below.refl _ _ | with_reducible refine belD ?_ | with_reducible refine belN _ ?_)) hb9)
      | (go_at_call 38; (with_reducible refine Calls.mono (HS.out _ _ (HPr.out.below (by repeat (first | with_reducible exact hB9 | with_reducible refine belN _ ?_)))) ?_); rintro e wz ⟨rfl, hPz⟩))
  all_goals
    go_wp2_with fail
    go_ret
    exact ⟨rfl, HP0.out.then hPz⟩
end Go.Proofs.YthgfeghgcickhaaGreatDoor
