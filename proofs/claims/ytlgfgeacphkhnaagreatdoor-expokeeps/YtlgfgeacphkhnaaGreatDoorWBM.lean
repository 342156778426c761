/- THE DOCUMENT'S TEXT OF A SNAPSHOT: the lines of a value. Own work of the verifier. -/
import Derived.Test.YtlgfgeacphkhnaaGreatDoorWBF
import Derived.Test.YtlgfgeacphkhnaaGreatDoorWBL
namespace Go.Proofs.YtlgfgeacphkhnaaGreatDoor
open Go.RowKit Me

theorem dvT_one (T l : List UInt8) : dvT T [l] = if fitB T then T ++ l else T := rfl
theorem dl0_any (u : World) (bv : Value) (T : List UInt8) (d : La.Ds) (lv : Value) (en nu : List UInt8) (w : World) (h : Gr u w bv T w) (hl : SLb u lv d.labels) (hs : Sho d []) (he : en.length ≤ 100) (hn : nu.length ≤ 1000) :
  Calls Tryz.prog 24 #[bv, dsV d lv, .string ⟨en.toArray⟩, .agg #[.string ⟨#[]⟩, .string ⟨#[]⟩], .string ⟨nu.toArray⟩] w fun e w' => ∃ bv', e = .returned bv' ∧ Gr u w bv' (dvT T [seT d en [] nu]) w' := by
 rw [dvT_one]
 by_cases k : fitB T = true
 ·rw [if_pos k]; exact dline_0 u bv T d lv en nu w h hl hs he hn k
 ·rw [if_neg k]
  exact (dline_no u bv T d lv en nu ([], []) w h (by simpa using k)).mono fun e w' ⟨q1, q2⟩ => ⟨bv, q1, q2⟩
theorem dl1_any (u : World) (bv : Value) (T : List UInt8) (d : La.Ds) (lv : Value) (en nu le : List UInt8) (w : World) (h : Gr u w bv T w) (hl : SLb u lv d.labels) (hs : Sho d [(leN, le)]) (he : en.length ≤ 100) (hn : nu.length ≤ 1000) :
  Calls Tryz.prog 24 #[bv, dsV d lv, .string ⟨en.toArray⟩, .agg #[.string ⟨#[108, 101]⟩, .string ⟨le.toArray⟩], .string ⟨nu.toArray⟩] w fun e w' => ∃ bv', e = .returned bv' ∧ Gr u w bv' (dvT T [seT d en [(leN, le)] nu]) w' := by
 rw [dvT_one]
 by_cases k : fitB T = true
 ·rw [if_pos k]; exact dline_le u bv T d lv en nu le w h hl hs he hn k
 ·rw [if_neg k]
  exact (dline_no u bv T d lv en nu (leN, le) w h (by simpa using k)).mono fun e w' ⟨q1, q2⟩ => ⟨bv, q1, q2⟩
theorem dl2_any (u : World) (bv : Value) (T : List UInt8) (d : La.Ds) (lv : Value) (en nu le : List UInt8) (w : World) (h : Gr u w bv T w) (hl : SLb u lv d.labels) (hs : Sho d [(quN, le)]) (he : en.length ≤ 100) (hn : nu.length ≤ 1000) :
  Calls Tryz.prog 24 #[bv, dsV d lv, .string ⟨en.toArray⟩, .agg #[.string ⟨#[113, 117, 97, 110, 116, 105, 108, 101]⟩, .string ⟨le.toArray⟩], .string ⟨nu.toArray⟩] w fun e w' => ∃ bv', e = .returned bv' ∧ Gr u w bv' (dvT T [seT d en [(quN, le)] nu]) w' := by
 rw [dvT_one]
 by_cases k : fitB T = true
 ·rw [if_pos k]; exact dline_qu u bv T d lv en nu le w h hl hs he hn k
 ·rw [if_neg k]
  exact (dline_no u bv T d lv en nu (quN, le) w h (by simpa using k)).mono fun e w' ⟨q1, q2⟩ => ⟨bv, q1, q2⟩
structure Gv (u w0 : World) (xb : Nat) (x : Vl) (lv cv bv : Value) (T : List UInt8) (W : World) : Prop where
 gr : Gr u w0 bv T W
 bx : W.heap[xb]? = some (.cells (vc x lv cv) 36)
theorem Gv.below {u w0 W W1 : World} {xb : Nat} {x : Vl} {lv cv bv : Value} {T : List UInt8} (h : Gv u w0 xb x lv cv bv T W) (hb : Below W.heap.size W W1) : Gv u w0 xb x lv cv bv T W1 := ⟨h.gr.below hb, (hb.block xb (Array.getElem?_eq_some_iff.1 h.bx).1).trans h.bx⟩
theorem Gv.then {u w0 W W1 : World} {xb : Nat} {x : Vl} {lv cv bv bv1 : Value} {T T1 : List UInt8} (h : Gv u w0 xb x lv cv bv T W) (k : Gr u W bv1 T1 W1) : Gv u w0 xb x lv cv bv1 T1 W1 := ⟨h.gr.then k, k.cells h.bx (by decide)⟩
set_option maxRecDepth 100000 in
set_option maxHeartbeats 400000 in
theorem dval_counter (u : World) (p : Int) (bv : Value) (T : List UInt8) (x : Vl) (lv cv : Value) (w : World) (h : Gr u w bv T w) (hl : SLb u lv x.d.labels) (hc : SN u cv x.cs) (hs : Sho x.d []) (hx : VW x) (hk : x.d.kind = 1) :
  Calls Tryz.prog 13 #[bv, .int .i64 p, vx x lv cv] w fun e w' => ∃ bv', e = .returned bv' ∧ Gr u w bv' (dvT T [seT x.d [] [] (Lib.itoa x.t)]) w' := by
 obtain ⟨ao, cap, rfl⟩ := hl.form
 obtain ⟨co, ccap, rfl⟩ := SN.form hc
 obtain ⟨bo, bcap, hbv⟩ := h.form
 obtain ⟨W0, hW0⟩ : ∃ W0, W0 = w.alloc (.cells (vc x (.slice ao x.d.labels.length cap) (.slice co x.cs.length ccap)) 36) := ⟨_, rfl⟩
 have hN0 : W0.heap[w.heap.size]? = some (.cells (vc x (.slice ao x.d.labels.length cap) (.slice co x.cs.length ccap)) 36) := by rw [hW0]; exact new_1 w _
 have hP0 : Gr u w bv T W0 := by rw [hW0]; exact h.alloc _
 have HI0 : Hid (Gv u w w.heap.size x (.slice ao x.d.labels.length cap) (.slice co x.cs.length ccap) bv T W0) := ⟨hP0, hN0⟩
 have HD : Hid (∀ W, Calls Tryz.prog 21 #[.agg #[.int .i64 (hiOf x.t), .int .u64 (loOf x.t)]] W fun e w' => e = .returned (.string ⟨(Lib.itoa x.t).toArray⟩) ∧ Below W.heap.size W w') := fun W => by have q := Wi.refprint_any _ _ (wf_of hx.t) W; rw [val_hl] at q; exact q
 have HS : Hid (∀ W, Gv u w w.heap.size x (.slice ao x.d.labels.length cap) (.slice co x.cs.length ccap) bv T W → Calls Tryz.prog 24 #[bv, dsV x.d (.slice ao x.d.labels.length cap), .string ⟨#[]⟩, .agg #[.string ⟨#[]⟩, .string ⟨#[]⟩], .string ⟨(Lib.itoa x.t).toArray⟩] W fun e w' => ∃ bv', e = .returned bv' ∧ Gv u w w.heap.size x (.slice ao x.d.labels.length cap) (.slice co x.cs.length ccap) bv' (dvT T [seT x.d [] [] (Lib.itoa x.t)]) w') := fun W k => by
  refine Calls.mono (dl0_any u bv T x.d _ [] (Lib.itoa x.t) W k.gr.re hl hs (by decide) (by have := itoa_len hx.t; omega)) ?_
  rintro e w' ⟨bv', rfl, q⟩
  exact ⟨bv', rfl, k.then q⟩
 have HW0 := hid_of hW0
 have HKq : Hid (∀ b X W, Gv u w w.heap.size x (.slice ao x.d.labels.length cap) (.slice co x.cs.length ccap) b X W → cB w.heap.size x (.slice ao x.d.labels.length cap) (.slice co x.cs.length ccap) W) := fun b X W k => cB_of k.bx
 have hk0 : W0.cell? ⟨w.heap.size, 0, none⟩ = some (.int .i64 1) := by rw [← hk]; exact (cB_of hN0).1
 subst hbv
 clear h hl hc hs hx hW0 hN0 hP0 hk
 generalize dvT T [seT x.d [] [] (Lib.itoa x.t)] = R at HS ⊢
 generalize Lib.itoa x.t = D at HS HD
 go_enter Tryz.func13, Tryz.ntmps13
 go_upto_region 1 with fail
 rw [← HW0.out]
 clear HW0
 go_upto_region 2 with fail
 clear hk0
 go_region_held3 (fun W => cB w.heap.size x (.slice ao x.d.labels.length cap) (.slice co x.cs.length ccap) W)
  (first | (with_reducible exact HKq.out _ _ _ hPz) | (with_reducible exact HKq.out _ _ _ hP9) | (with_reducible refine HKq.out _ _ _ (HI0.out.below ?_); repeat (first | with_reducible exact Below.refl _ _ | with_reducible refine belD ?_ | with_reducible refine belN _ ?_)))
  (first
   | (go_at_call 21; (with_reducible refine Calls.mono (HD.out _) ?_); rintro e w9 ⟨rfl, hb9⟩; have hP9 := HI0.out.below (bt (by repeat (first | with_reducible exact Below.refl _ _ | with_reducible refine belD ?_ | with_reducible refine belN _ ?_)) hb9))
   | (go_at_call 24; (with_reducible refine Calls.mono (HS.out _ hP9) ?_); rintro e wz ⟨bz, rfl, hPz⟩))
 all_goals
  go_wp2_with fail
  go_ret
  exact ⟨_, rfl, hPz.gr⟩
end Go.Proofs.YtlgfgeacphkhnaaGreatDoor
/- THE DOCUMENT'S TEXT OF A SNAPSHOT: the lines of a summary, of a histogram. Own work of the verifier. -/
namespace Go.Proofs.YtlgfgeacphkhnaaGreatDoor
open Go.RowKit Me

def RPr : Prop := ∀ f, f < 18446744073709551616 → ∀ W, Calls Tryz.prog 25 #[.float .f64 f] W fun e w' => e = .returned (.string ⟨(Rl.pText f).toArray⟩) ∧ Below W.heap.size W w'
theorem dv_two (T a b : List UInt8) : dvT T [a, b] = dvT (dvT T [a]) [b] := dvT_app [a] [b] T
set_option maxRecDepth 100000 in
set_option maxHeartbeats 2000000 in
theorem dval_summary (hPr : RPr) (u : World) (p : Int) (bv : Value) (T : List UInt8) (x : Vl) (lv cv : Value) (w : World) (h : Gr u w bv T w) (hl : SLb u lv x.d.labels) (hc : SN u cv x.cs) (hs : Sho x.d []) (hn : x.d.labels.length ≤ 16) (hx : VW x) (hk : x.d.kind = 3) :
  Calls Tryz.prog 13 #[bv, .int .i64 p, vx x lv cv] w fun e w' => ∃ bv', e = .returned bv' ∧ Gr u w bv' (dvT T (smL x)) w' := by
 obtain ⟨ao, cap, rfl⟩ := hl.form
 obtain ⟨co, ccap, rfl⟩ := SN.form hc
 obtain ⟨bo, bcap, hbv⟩ := h.form
 obtain ⟨W0, hW0⟩ : ∃ W0, W0 = w.alloc (.cells (vc x (.slice ao x.d.labels.length cap) (.slice co x.cs.length ccap)) 36) := ⟨_, rfl⟩
 have hN0 : W0.heap[w.heap.size]? = some (.cells (vc x (.slice ao x.d.labels.length cap) (.slice co x.cs.length ccap)) 36) := by rw [hW0]; exact new_1 w _
 have hP0 : Gr u w bv T W0 := by rw [hW0]; exact h.alloc _
 have HI0 : Hid (Gv u w w.heap.size x (.slice ao x.d.labels.length cap) (.slice co x.cs.length ccap) bv T W0) := ⟨hP0, hN0⟩
 have HPs : Hid (∀ W, Calls Tryz.prog 25 #[.float .f64 x.sum] W fun e w' => e = .returned (.string ⟨(Rl.pText x.sum).toArray⟩) ∧ Below W.heap.size W w') := hPr x.sum hx.sum
 have HDn : Hid (∀ W, Calls Tryz.prog 10 #[.int .u64 (x.n : Int)] W fun e w' => e = .returned (.string ⟨(Lib.decDigits x.n).toArray⟩) ∧ Below W.heap.size W w') := dwhole_any x.n hx.n
 have HSu : Hid (∀ b X W, Gv u w w.heap.size x (.slice ao x.d.labels.length cap) (.slice co x.cs.length ccap) b X W → Calls Tryz.prog 24 #[b, dsV x.d (.slice ao x.d.labels.length cap), .string ⟨#[95, 115, 117, 109]⟩, .agg #[.string ⟨#[]⟩, .string ⟨#[]⟩], .string ⟨(Rl.pText x.sum).toArray⟩] W fun e w' => ∃ b', e = .returned b' ∧ Gv u w w.heap.size x (.slice ao x.d.labels.length cap) (.slice co x.cs.length ccap) b' (dvT X [seT x.d suE [] (Rl.pText x.sum)]) w') := fun b X W k => by
  refine Calls.mono (dl0_any u b X x.d _ suE (Rl.pText x.sum) W k.gr.re hl hs (by decide) (by have := text_len x.sum; omega)) ?_
  rintro e w' ⟨b', rfl, q⟩
  exact ⟨b', rfl, k.then q⟩
 have HCo : Hid (∀ b X W, Gv u w w.heap.size x (.slice ao x.d.labels.length cap) (.slice co x.cs.length ccap) b X W → Calls Tryz.prog 24 #[b, dsV x.d (.slice ao x.d.labels.length cap), .string ⟨#[95, 99, 111, 117, 110, 116]⟩, .agg #[.string ⟨#[]⟩, .string ⟨#[]⟩], .string ⟨(Lib.decDigits x.n).toArray⟩] W fun e w' => ∃ b', e = .returned b' ∧ Gv u w w.heap.size x (.slice ao x.d.labels.length cap) (.slice co x.cs.length ccap) b' (dvT X [seT x.d coE [] (Lib.decDigits x.n)]) w') := fun b X W k => by
  refine Calls.mono (dl0_any u b X x.d _ coE (Lib.decDigits x.n) W k.gr.re hl hs (by decide) (by have := digits_len x.n hx.n; omega)) ?_
  rintro e w' ⟨b', rfl, q⟩
  exact ⟨b', rfl, k.then q⟩
 have HKq : Hid (∀ b X W, Gv u w w.heap.size x (.slice ao x.d.labels.length cap) (.slice co x.cs.length ccap) b X W → cB w.heap.size x (.slice ao x.d.labels.length cap) (.slice co x.cs.length ccap) W) := fun b X W k => cB_of k.bx
 have HKk : Hid (∀ b X W, Gv u w w.heap.size x (.slice ao x.d.labels.length cap) (.slice co x.cs.length ccap) b X W → W.cell? ⟨w.heap.size, 0, none⟩ = some (.int .i64 3)) := fun b X W k => by rw [← hk]; exact (cB_of k.bx).1
 have HFm : Hid (∀ b X W, Gv u w w.heap.size x (.slice ao x.d.labels.length cap) (.slice co x.cs.length ccap) b X W → ∃ a c, b = .slice a X.length c) := fun b X W k => k.gr.form
 have HP0 : Hid (∀ W, Calls Tryz.prog 25 #[.float .f64 x.mn] W fun e w' => e = .returned (.string ⟨(Rl.pText x.mn).toArray⟩) ∧ Below W.heap.size W w') := hPr x.mn hx.mn
 have HP1 : Hid (∀ W, Calls Tryz.prog 25 #[.float .f64 x.mx] W fun e w' => e = .returned (.string ⟨(Rl.pText x.mx).toArray⟩) ∧ Below W.heap.size W w') := hPr x.mx hx.mx
 have HQ0 : Hid (∀ b X W, Gv u w w.heap.size x (.slice ao x.d.labels.length cap) (.slice co x.cs.length ccap) b X W → Calls Tryz.prog 24 #[b, dsV x.d (.slice ao x.d.labels.length cap), .string ⟨#[]⟩, .agg #[.string ⟨#[113, 117, 97, 110, 116, 105, 108, 101]⟩, .string ⟨#[48]⟩], .string ⟨(Rl.pText x.mn).toArray⟩] W fun e w' => ∃ b', e = .returned b' ∧ Gv u w w.heap.size x (.slice ao x.d.labels.length cap) (.slice co x.cs.length ccap) b' (dvT X [seT x.d [] [(quN, [48])] (Rl.pText x.mn)]) w') := fun b X W k => by
  refine Calls.mono (dl2_any u b X x.d _ [] (Rl.pText x.mn) [48] W k.gr.re hl (sho_qu hs [48] (by decide) hn) (by decide) (by have := text_len x.mn; omega)) ?_
  rintro e w' ⟨b', rfl, q⟩
  exact ⟨b', rfl, k.then q⟩
 have HQ1 : Hid (∀ b X W, Gv u w w.heap.size x (.slice ao x.d.labels.length cap) (.slice co x.cs.length ccap) b X W → Calls Tryz.prog 24 #[b, dsV x.d (.slice ao x.d.labels.length cap), .string ⟨#[]⟩, .agg #[.string ⟨#[113, 117, 97, 110, 116, 105, 108, 101]⟩, .string ⟨#[49]⟩], .string ⟨(Rl.pText x.mx).toArray⟩] W fun e w' => ∃ b', e = .returned b' ∧ Gv u w w.heap.size x (.slice ao x.d.labels.length cap) (.slice co x.cs.length ccap) b' (dvT X [seT x.d [] [(quN, [49])] (Rl.pText x.mx)]) w') := fun b X W k => by
  refine Calls.mono (dl2_any u b X x.d _ [] (Rl.pText x.mx) [49] W k.gr.re hl (sho_qu hs [49] (by decide) hn) (by decide) (by have := text_len x.mx; omega)) ?_
  rintro e w' ⟨b', rfl, q⟩
  exact ⟨b', rfl, k.then q⟩
 have HW0 := hid_of hW0
 subst hbv
 clear h hl hc hs hx hW0 hN0 hP0 hk hPr hn
 unfold smL
 by_cases hN : 0 < x.n
 ·rw [if_pos hN, dvT_app, dv_two T, dv_two (dvT (dvT T _) _)]
  have hN' : (0 : Int) < (x.n : Int) := by omega
  clear hN
  generalize Rl.pText x.mn = D1 at *
  generalize Rl.pText x.mx = D2 at *
  generalize Rl.pText x.sum = D3 at *
  generalize hT1 : dvT T [seT x.d [] [(quN, [48])] D1] = T1
  generalize hT2 : dvT T1 [seT x.d [] [(quN, [49])] D2] = T2
  replace HQ0 : Hid (∀ W, Gv u w w.heap.size x (.slice ao x.d.labels.length cap) (.slice co x.cs.length ccap) (.slice bo T.length bcap) T W → Calls Tryz.prog 24 #[.slice bo T.length bcap, dsV x.d (.slice ao x.d.labels.length cap), .string ⟨#[]⟩, .agg #[.string ⟨#[113, 117, 97, 110, 116, 105, 108, 101]⟩, .string ⟨#[48]⟩], .string ⟨D1.toArray⟩] W fun e w' => ∃ b', e = .returned b' ∧ Gv u w w.heap.size x (.slice ao x.d.labels.length cap) (.slice co x.cs.length ccap) b' T1 w') := fun W k => by rw [← hT1]; exact HQ0.out _ _ W k
  replace HQ1 : Hid (∀ b W, Gv u w w.heap.size x (.slice ao x.d.labels.length cap) (.slice co x.cs.length ccap) b T1 W → Calls Tryz.prog 24 #[b, dsV x.d (.slice ao x.d.labels.length cap), .string ⟨#[]⟩, .agg #[.string ⟨#[113, 117, 97, 110, 116, 105, 108, 101]⟩, .string ⟨#[49]⟩], .string ⟨D2.toArray⟩] W fun e w' => ∃ b', e = .returned b' ∧ Gv u w w.heap.size x (.slice ao x.d.labels.length cap) (.slice co x.cs.length ccap) b' T2 w') := fun b W k => by rw [← hT2]; exact HQ1.out _ _ W k
  clear hT1 hT2
  go_enter Tryz.func13, Tryz.ntmps13
  go_upto_region 1 with fail
  rw [← HW0.out]
  clear HW0
  have hk0 := HKk.out _ _ _ HI0.out
  go_upto_region 3 with fail
  obtain ⟨-, -, -, -, -, -, -, -, d8, -, -⟩ := HKq.out _ _ _ HI0.out
  clear hk0
  go_wp2_with fail
  refine (HPs.out _).mono ?_
  rintro e w3 ⟨rfl, hb3⟩
  have HI3 := hid_of (HI0.out.below hb3)
  clear HI0 hb3 d8 HPs
  have hk3 := HKk.out _ _ _ HI3.out
  go_upto_region 14 with fail
  obtain ⟨-, -, -, -, -, -, -, d7, -, -, -⟩ := HKq.out _ _ _ HI3.out
  clear hk3
  go_upto_region 15 with fail
  clear d7 HKk
  go_cut [0, 85] from 86 (fun v _ W => ∃ a c, v = .slice a T1.length c ∧ Hid (Gv u w w.heap.size x (.slice ao x.d.labels.length cap) (.slice co x.cs.length ccap) v T1 W))
  case first =>
   go_region_held3 (fun W => cB w.heap.size x (.slice ao x.d.labels.length cap) (.slice co x.cs.length ccap) W)
    (first | (with_reducible exact HKq.out _ _ _ hPz) | (with_reducible exact HKq.out _ _ _ hP9) | (with_reducible refine HKq.out _ _ _ (HI3.out.below ?_); repeat (first | with_reducible exact Below.refl _ _ | with_reducible refine belD ?_ | with_reducible refine belN _ ?_)))
    (first
     | (go_at_call 25; (with_reducible refine Calls.mono (HP0.out _) ?_); rintro e w9 ⟨rfl, hb9⟩; have hP9 := HI3.out.below (bt (by repeat (first | with_reducible exact Below.refl _ _ | with_reducible refine belD ?_ | with_reducible refine belN _ ?_)) hb9))
     | (go_at_call 24; (with_reducible refine Calls.mono (HQ0.out _ hP9) ?_); rintro e wz ⟨bz, rfl, hPz⟩))
   all_goals
    obtain ⟨az, cz, rfl⟩ := HFm.out _ _ _ hPz
    go_wp2_with fail
    go_meet
    exact ⟨_, _, rfl, hPz⟩
  case rest =>
   obtain ⟨a15, c15, rfl, HI15⟩ := hcut
   clear HI3 HQ0 HP0
   go_upto_region 16 with fail
   go_cut [0] from 94 (fun v W => ∃ a c, v = .slice a T2.length c ∧ Hid (Gv u w w.heap.size x (.slice ao x.d.labels.length cap) (.slice co x.cs.length ccap) v T2 W))
   case first =>
    go_region_held3 (fun W => cB w.heap.size x (.slice ao x.d.labels.length cap) (.slice co x.cs.length ccap) W)
     (first | (with_reducible exact HKq.out _ _ _ hPz) | (with_reducible exact HKq.out _ _ _ hP9) | (with_reducible refine HKq.out _ _ _ (HI15.out.below ?_); repeat (first | with_reducible exact Below.refl _ _ | with_reducible refine belD ?_ | with_reducible refine belN _ ?_)))
     (first
      | (go_at_call 25; (with_reducible refine Calls.mono (HP1.out _) ?_); rintro e w9 ⟨rfl, hb9⟩; have hP9 := HI15.out.below (bt (by repeat (first | with_reducible exact Below.refl _ _ | with_reducible refine belD ?_ | with_reducible refine belN _ ?_)) hb9))
      | (go_at_call 24; (with_reducible refine Calls.mono (HQ1.out _ _ hP9) ?_); rintro e wz ⟨bz, rfl, hPz⟩))
    all_goals
     obtain ⟨az, cz, rfl⟩ := HFm.out _ _ _ hPz
     go_wp2_with fail
     go_meet
     exact ⟨_, _, rfl, hPz⟩
   case rest =>
    obtain ⟨a16, c16, rfl, HI16⟩ := hcut
    clear HI15 HQ1 HP1
    go_upto_region 17 with fail
    obtain ⟨c0, c1, c2, c3, -, -, -, -, -, -, -⟩ := HKq.out _ _ _ HI16.out
    have D17 : La.HidC _ _ _ _ _ := HSu.out _ _ _ HI16.out
    go_wp2_with fail
    refine (D17.out).mono ?_
    rintro e w17 ⟨b17, rfl, h17⟩
    obtain ⟨a17, e17, rfl⟩ := HFm.out _ _ _ h17
    have HI17 := hid_of h17
    clear D17 h17 c0 c1 c2 c3
    go_upto_region 18 with fail
    go_region_held3 (fun W => cB w.heap.size x (.slice ao x.d.labels.length cap) (.slice co x.cs.length ccap) W)
     (first | (with_reducible exact HKq.out _ _ _ hPz) | (with_reducible exact HKq.out _ _ _ hP9) | (with_reducible refine HKq.out _ _ _ (HI17.out.below ?_); repeat (first | with_reducible exact Below.refl _ _ | with_reducible refine belD ?_ | with_reducible refine belN _ ?_)))
     (first
      | (go_at_call 10; (with_reducible refine Calls.mono (HDn.out _) ?_); rintro e w9 ⟨rfl, hb9⟩; have hP9 := HI17.out.below (bt (by repeat (first | with_reducible exact Below.refl _ _ | with_reducible refine belD ?_ | with_reducible refine belN _ ?_)) hb9))
      | (go_at_call 24; (with_reducible refine Calls.mono (HCo.out _ _ _ hP9) ?_); rintro e wz ⟨bz, rfl, hPz⟩))
    all_goals
     go_wp2_with fail
     go_ret
     exact ⟨_, rfl, hPz.gr⟩
 ·rw [if_neg hN, List.nil_append, dv_two T]
  have hN' : ¬ (0 : Int) < (x.n : Int) := by omega
  clear hN HQ0 HQ1 HP0 HP1
  generalize Rl.pText x.sum = D3 at *
  go_enter Tryz.func13, Tryz.ntmps13
  go_upto_region 1 with fail
  rw [← HW0.out]
  clear HW0
  have hk0 := HKk.out _ _ _ HI0.out
  go_upto_region 3 with fail
  obtain ⟨-, -, -, -, -, -, -, -, d8, -, -⟩ := HKq.out _ _ _ HI0.out
  clear hk0
  go_wp2_with fail
  refine (HPs.out _).mono ?_
  rintro e w3 ⟨rfl, hb3⟩
  have HI3 := hid_of (HI0.out.below hb3)
  clear HI0 hb3 d8 HPs
  have hk3 := HKk.out _ _ _ HI3.out
  go_upto_region 14 with fail
  obtain ⟨-, -, -, -, -, -, -, d7, -, -, -⟩ := HKq.out _ _ _ HI3.out
  clear hk3 HKk
  go_upto_region 17 with fail
  clear d7
  obtain ⟨c0, c1, c2, c3, -, -, -, -, -, -, -⟩ := HKq.out _ _ _ HI3.out
  have D17 : La.HidC _ _ _ _ _ := HSu.out _ _ _ HI3.out
  go_wp2_with fail
  refine (D17.out).mono ?_
  rintro e w17 ⟨b17, rfl, h17⟩
  obtain ⟨a17, e17, rfl⟩ := HFm.out _ _ _ h17
  have HI17 := hid_of h17
  clear D17 h17 c0 c1 c2 c3
  go_upto_region 18 with fail
  go_region_held3 (fun W => cB w.heap.size x (.slice ao x.d.labels.length cap) (.slice co x.cs.length ccap) W)
   (first | (with_reducible exact HKq.out _ _ _ hPz) | (with_reducible exact HKq.out _ _ _ hP9) | (with_reducible refine HKq.out _ _ _ (HI17.out.below ?_); repeat (first | with_reducible exact Below.refl _ _ | with_reducible refine belD ?_ | with_reducible refine belN _ ?_)))
   (first
    | (go_at_call 10; (with_reducible refine Calls.mono (HDn.out _) ?_); rintro e w9 ⟨rfl, hb9⟩; have hP9 := HI17.out.below (bt (by repeat (first | with_reducible exact Below.refl _ _ | with_reducible refine belD ?_ | with_reducible refine belN _ ?_)) hb9))
    | (go_at_call 24; (with_reducible refine Calls.mono (HCo.out _ _ _ hP9) ?_); rintro e wz ⟨bz, rfl, hPz⟩))
  all_goals
   go_wp2_with fail
   go_ret
   exact ⟨_, rfl, hPz.gr⟩
end Go.Proofs.YtlgfgeacphkhnaaGreatDoor
