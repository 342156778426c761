/- THE SUMMARY's row is emptied, whatever it holds. Own work of the verifier. -/
import Derived.Test.YtfnohbalkpponaaGreatDoorZBA
namespace Go.Proofs.YtfnohbalkpponaaGreatDoor
open Go.RowKit

/-- A summary's row at first. -/
def sNil : List Int := sRow 0 0 0 9218868437227405312 18442240474082181120
theorem sNil_eq : sNil = [0, 0, 0, 9218868437227405312, -4503599627370496] := by decide +kernel
set_option maxRecDepth 10000 in
set_option maxHeartbeats 8000000 in
theorem sdrain_any (p : Value) (g : Nat) (k : Int) (s c mn mx : Nat) (hs : s < 18446744073709551616) (hc : c < 18446744073709551616) (hmn : mn < 18446744073709551616) (hmx : mx < 18446744073709551616) (w : World) (h : RowW w g (sRow k s c mn mx)) (b : Bool) (hb : b = decide (uw k = 0)) :
    Calls Tryz.prog 312 #[p, .pointer none, .slice (some ⟨g, 0, none⟩) 5 5] w fun e w' => e = .returned (if b then part 0 0 (.slice none 0 0) 0 0 0 0 0 else part 0 0 (.slice none 0 0) (uw k) s c mn mx) ∧ Hid (RowW w' g sNil) ∧ Hid (Mid g (g + 1) w w') := by
  have HS0 : Hid (∀ W, RowW W g (sRow k s c mn mx) → _) := fun W hW => wswap_row g 0 _ k 0 W hW (by rw [sRow_l]; decide) (g5_0 _ _ _ _ _) (sRow 0 s c mn mx) (sRow_0 _ _ _ _ _ _)
  have HS1 : Hid (∀ W, RowW W g (sRow 0 s c mn mx) → Calls Tryz.prog 316 #[.pointer none, .pointer (some ⟨g, 1, none⟩), .float .f64 0] W fun e w' => e = .returned (.float .f64 s) ∧ Hid (RowW w' g (sRow 0 0 c mn mx)) ∧ Hid (Mid g (g + 1) W w')) := fun W hW => by
    have := swapF_any g 1 (sRow 0 s c mn mx) 0 s hs W hW (by rw [sRow_l]; decide) (g5_1 _ _ _ _ _)
    rw [sRow_1] at this; exact this
  have HS2 : Hid (∀ W, RowW W g (sRow 0 0 c mn mx) → Calls Tryz.prog 316 #[.pointer none, .pointer (some ⟨g, 2, none⟩), .float .f64 0] W fun e w' => e = .returned (.float .f64 c) ∧ Hid (RowW w' g (sRow 0 0 0 mn mx)) ∧ Hid (Mid g (g + 1) W w')) := fun W hW => by
    have := swapF_any g 2 (sRow 0 0 c mn mx) 0 c hc W hW (by rw [sRow_l]; decide) (g5_2 _ _ _ _ _)
    rw [sRow_2] at this; exact this
  have HS3 : Hid (∀ W, RowW W g (sRow 0 0 0 mn mx) → Calls Tryz.prog 316 #[.pointer none, .pointer (some ⟨g, 3, none⟩), .float .f64 9218868437227405312] W fun e w' => e = .returned (.float .f64 mn) ∧ Hid (RowW w' g (sRow 0 0 0 9218868437227405312 mx)) ∧ Hid (Mid g (g + 1) W w')) := fun W hW => by
    have := swapF_any g 3 (sRow 0 0 0 mn mx) 9218868437227405312 mn hmn W hW (by rw [sRow_l]; decide) (g5_3 _ _ _ _ _)
    rw [sRow_3] at this; exact this
  have HS4 : Hid (∀ W, RowW W g (sRow 0 0 0 9218868437227405312 mx) → Calls Tryz.prog 316 #[.pointer none, .pointer (some ⟨g, 4, none⟩), .float .f64 18442240474082181120] W fun e w' => e = .returned (.float .f64 mx) ∧ Hid (RowW w' g sNil) ∧ Hid (Mid g (g + 1) W w')) := fun W hW => by
    have := swapF_any g 4 (sRow 0 0 0 9218868437227405312 mx) 18442240474082181120 mx hmx W hW (by rw [sRow_l]; decide) (g5_4 _ _ _ _ _)
    rw [sRow_4] at this; exact this
  have HU : Hid (∀ W, _) := inf_up
  have HD : Hid (∀ W, _) := inf_down
  have hl := h.lt
  have hn1 : ¬ (g ≤ w.heap.size ∧ w.heap.size < g + 1) := by omega
  have HN : Hid _ := new_1 w (.cells #[.int .i64 0, .int .u64 0, .slice none 0 0, .int .u64 0, .complex .f64 0 0, .float .f64 0, .float .f64 0] 184)
  obtain ⟨w0, hw0⟩ : ∃ w0, w.alloc (.cells #[.int .i64 0, .int .u64 0, .slice none 0 0, .int .u64 0, .complex .f64 0 0, .float .f64 0, .float .f64 0] 184) = w0 := ⟨_, rfl⟩
  have HR : Hid (RowW w0 g (sRow k s c mn mx)) := by rw [← hw0]; exact h.alloc _
  have HM0 : Hid (Mid g (g + 1) w w0) := by rw [← hw0]; exact (Mid.refl _ _ _).alloc _
  rw [hw0] at HN
  obtain ⟨u, hu⟩ : ∃ u, u = uw k := ⟨_, rfl⟩
  rw [← hu] at hb ⊢
  have hu' : IntKind.u64.wrap k = u := hu.symm
  clear h hs hc hmn hmx hu
  by_cases h0 : u = 0
  · subst h0
    rw [hb, decide_eq_true rfl, if_pos rfl]
    clear hb
    go_enter Tryz.func312, Tryz.ntmps312
    go_upto_region 4 with (first
      | (go_at_call 133; with_reducible refine Calls.mono (HS0.out _ HR.out) ?_; rintro e w1 ⟨rfl, HR1, HM1⟩)
      | (go_at_call 316; with_reducible refine Calls.mono (HS1.out _ HR1.out) ?_; rintro e w2 ⟨rfl, HR2, HM2⟩)
      | (go_at_call 316; with_reducible refine Calls.mono (HS2.out _ HR2.out) ?_; rintro e w3 ⟨rfl, HR3, HM3⟩))
    clear hw0
    have HR3d : Hid (RowW w3.drew g (sRow 0 0 0 mn mx)) := HR3
    go_region_held3 (fun W => Mid g (g + 1) w3 W) (first | with_reducible assumption | exact Mid.refl _ _ _ | exact (Mid.refl _ _ _).drew)
      (first
        | (go_at_call 317; with_reducible refine Calls.mono (HU.out _) ?_; rintro e w4 ⟨rfl, rfl⟩)
        | (go_at_call 316; with_reducible refine Calls.mono (HS3.out _ HR3d.out) ?_; rintro e w4 ⟨rfl, HR4, HM4⟩; have hm4 := mid_drew HM4.out))
    go_upto_region 5 with fail
    have HR4d : Hid (RowW w4.drew g (sRow 0 0 0 9218868437227405312 mx)) := HR4
    go_region_held3 (fun W => Mid g (g + 1) w4 W) (first | with_reducible assumption | exact Mid.refl _ _ _ | exact (Mid.refl _ _ _).drew)
      (first
        | (go_at_call 317; with_reducible refine Calls.mono (HD.out _) ?_; rintro e w5 ⟨rfl, rfl⟩)
        | (go_at_call 316; with_reducible refine Calls.mono (HS4.out _ HR4d.out) ?_; rintro e w5 ⟨rfl, HR5, HM5⟩; have hm5 := mid_drew HM5.out))
    have HM : Hid (Mid g (g + 1) w w5) := HM0.out.trans (HM1.out.trans (HM2.out.trans (HM3.out.trans (hm4.trans hm5))))
    have HN5 := hid_mid (hid_mid HN (HM1.out.trans (HM2.out.trans (HM3.out.trans (hm4.trans hm5)))) hn1) (Mid.refl g (g + 1) w5) hn1
    obtain ⟨q0, q1, q2, q3, q4, q5, q6⟩ := seven_cells HN5
    obtain ⟨f0, f1, f2, f3, f4, f5, f6⟩ := seven_fr HN5
    have sF := store_f
    have sC := store_c
    clear hm4 hm5
    go_wp2_with fail
    rw [put7_eq]
    have HE := set_seven (v0 := .int .i64 0) (v1 := .int .u64 0) (v2 := .slice none 0 0) (v3 := .int .u64 0) (v4 := .complex .f64 0 0) (v5 := .float .f64 0) (v6 := .float .f64 0) HN5.out
    obtain ⟨z0, z1, z2, z3, z4, z5, z6⟩ := seven_cells HE
    simp [bodyPost, results, Tryz.results312, go_sem, z0, z1, z2, z3, z4, z5, z6]
    exact ⟨HR5.out.put7 (by omega) _ _ _ _ _ _ _, HM.out.put7 (Nat.le_refl _) _ _ _ _ _ _ _⟩
  · rw [hb, decide_eq_false h0, if_neg (by decide)]
    clear hb
    go_enter Tryz.func312, Tryz.ntmps312
    go_upto_region 4 with (first
      | (go_at_call 133; with_reducible refine Calls.mono (HS0.out _ HR.out) ?_; rintro e w1 ⟨rfl, HR1, HM1⟩)
      | (go_at_call 316; with_reducible refine Calls.mono (HS1.out _ HR1.out) ?_; rintro e w2 ⟨rfl, HR2, HM2⟩)
      | (go_at_call 316; with_reducible refine Calls.mono (HS2.out _ HR2.out) ?_; rintro e w3 ⟨rfl, HR3, HM3⟩))
    clear hw0
    have HR3d : Hid (RowW w3.drew g (sRow 0 0 0 mn mx)) := HR3
    go_region_held3 (fun W => Mid g (g + 1) w3 W) (first | with_reducible assumption | exact Mid.refl _ _ _ | exact (Mid.refl _ _ _).drew)
      (first
        | (go_at_call 317; with_reducible refine Calls.mono (HU.out _) ?_; rintro e w4 ⟨rfl, rfl⟩)
        | (go_at_call 316; with_reducible refine Calls.mono (HS3.out _ HR3d.out) ?_; rintro e w4 ⟨rfl, HR4, HM4⟩; have hm4 := mid_drew HM4.out))
    go_upto_region 5 with fail
    have HR4d : Hid (RowW w4.drew g (sRow 0 0 0 9218868437227405312 mx)) := HR4
    go_region_held3 (fun W => Mid g (g + 1) w4 W) (first | with_reducible assumption | exact Mid.refl _ _ _ | exact (Mid.refl _ _ _).drew)
      (first
        | (go_at_call 317; with_reducible refine Calls.mono (HD.out _) ?_; rintro e w5 ⟨rfl, rfl⟩)
        | (go_at_call 316; with_reducible refine Calls.mono (HS4.out _ HR4d.out) ?_; rintro e w5 ⟨rfl, HR5, HM5⟩; have hm5 := mid_drew HM5.out))
    have HM : Hid (Mid g (g + 1) w w5) := HM0.out.trans (HM1.out.trans (HM2.out.trans (HM3.out.trans (hm4.trans hm5))))
    have HN5 := hid_mid (hid_mid HN (HM1.out.trans (HM2.out.trans (HM3.out.trans (hm4.trans hm5)))) hn1) (Mid.refl g (g + 1) w5) hn1
    obtain ⟨q0, q1, q2, q3, q4, q5, q6⟩ := seven_cells HN5
    obtain ⟨f0, f1, f2, f3, f4, f5, f6⟩ := seven_fr HN5
    have sF := store_f
    have sC := store_c
    clear hm4 hm5
    go_wp2_with fail
    rw [put7_eq]
    have HE := set_seven (v0 := .int .i64 0) (v1 := .int .u64 0) (v2 := .slice none 0 0) (v3 := .int .u64 u) (v4 := .complex .f64 s c) (v5 := .float .f64 mn) (v6 := .float .f64 mx) HN5.out
    obtain ⟨z0, z1, z2, z3, z4, z5, z6⟩ := seven_cells HE
    simp [bodyPost, results, Tryz.results312, go_sem, z0, z1, z2, z3, z4, z5, z6]
    exact ⟨HR5.out.put7 (by omega) _ _ _ _ _ _ _, HM.out.put7 (Nat.le_refl _) _ _ _ _ _ _ _⟩
end Go.Proofs.YtfnohbalkpponaaGreatDoor
/- DRAIN OF A SLAB, whatever it holds: parts, and what comes of them. Own work of the verifier. -/
namespace Go.Proofs.YtfnohbalkpponaaGreatDoor
open Go.RowKit

/-- A part. -/
structure Pt where
  hi : Int
  lo : Int
  L : List Cn
  n : Nat
  s : Nat
  c : Nat
  mn : Nat
  mx : Nat
def Pt.nil : Pt := ⟨0, 0, [], 0, 0, 0, 0, 0⟩
/-- A part as it may be: its counts stand below M. -/
structure Pt.Ok (M : Nat) (X : Pt) : Prop where
  wf : Wf X.hi X.lo
  rise : Rise X.L
  ix : ∀ c ∈ X.L, 0 ≤ c.1 ∧ c.1 < (M : Int) ∧ c.2 < 18446744073709551616
  hn : X.n < 18446744073709551616
  hs : X.s < 18446744073709551616
  hc : X.c < 18446744073709551616
  h1 : X.mn < 18446744073709551616
  h2 : X.mx < 18446744073709551616
theorem Pt.nil_ok (M : Nat) : Pt.nil.Ok M := ⟨wf_zero, List.Pairwise.nil, (fun c hc => by cases hc), by decide, by decide, by decide, by decide, by decide⟩
theorem rise_len : ∀ (O L : List Cn), Rise O → (∀ c ∈ O, ∃ d ∈ L, d.1 = c.1) → O.length ≤ L.length
  | [], _, _, _ => Nat.zero_le _
  | c :: O, L, h, hm => by
    obtain ⟨d, hd, e⟩ := hm c (by simp)
    have ih := rise_len O (L.erase d) (List.pairwise_cons.1 h).2 (fun x hx => by
      obtain ⟨y, hy, e'⟩ := hm x (by simp [hx])
      have := (List.pairwise_cons.1 h).1 x hx
      exact ⟨y, (List.mem_erase_of_ne (fun q => by rw [q] at e'; omega)).2 hy, e'⟩)
    have l1 := List.length_erase_of_mem hd
    have l2 := List.length_pos_of_mem hd
    simp only [List.length_cons]
    omega
theorem key_mem {O : List Cn} (h : Rise O) {c : Cn} (hc : c ∈ O) : key O c.1 = c.2 := by
  induction O with
  | nil => cases hc
  | cons d O ih =>
    rcases List.mem_cons.1 hc with q | q
    · subst q
      exact key_head h
    · have hl := (List.pairwise_cons.1 h).1 c q
      have := ih (List.pairwise_cons.1 h).2 q
      simp only [key]
      rw [if_neg (by omega), this]
      omega
theorem merge_mem {O L : List Cn} (h : IsMerge O L) {c : Cn} (hc : c ∈ O) : ∃ d ∈ L, d.1 = c.1 := by
  have h1 := h.keys c.1
  rw [key_mem h.rise hc] at h1
  have h2 := (h.nz c hc).1
  rcases Classical.em (∃ d ∈ L, d.1 = c.1) with q | q
  · exact q
  · exfalso
    rw [key_none (fun d hd e => q ⟨d, hd, e⟩)] at h1
    omega
theorem Pt.Ok.len {M : Nat} {X : Pt} (h : X.Ok M) : X.L.length ≤ M := by
  have := rise_len X.L ((List.range M).map fun i => (((i : Nat) : Int), 0)) h.rise (fun c hc => by
    have := h.ix c hc
    exact ⟨((c.1.toNat : Nat), 0), List.mem_map.2 ⟨c.1.toNat, List.mem_range.2 (by omega), rfl⟩, by simp; omega⟩)
  simpa using this
theorem Pt.Ok.wc {M : Nat} {X : Pt} (h : X.Ok M) (hM : M ≤ 1048576) : Wc X.L := fun c hc => by
  have := h.ix c hc
  exact ⟨by omega, by omega, this.2.2⟩
/-- What comes of two parts. -/
structure MrgR (P X P' : Pt) : Prop where
  hi : P'.hi = hiOf (rnd (val P.hi P.lo + val X.hi X.lo))
  lo : P'.lo = loOf (rnd (val P.hi P.lo + val X.hi X.lo))
  L : IsMerge P'.L (P.L ++ X.L)
  n : P'.n = (P.n + X.n) % 18446744073709551616
  s : Soft.one P'.s = Soft.fa P.s X.s
  c : Soft.one P'.c = Soft.fa (Soft.fa P.c X.c) (Soft.fl P.s X.s)
  mn : P'.mn = endF P.n X.n P.mn X.mn (-1)
  mx : P'.mx = endF P.n X.n P.mx X.mx 1
  hs : P'.s < 18446744073709551616
  hc : P'.c < 18446744073709551616
theorem MrgR.ok {M : Nat} {P X P' : Pt} (h : MrgR P X P') (hP : P.Ok M) (hX : X.Ok M) : P'.Ok M :=
  ⟨by rw [h.hi, h.lo]; exact wf_rnd _, h.L.rise, fun c hc => by
    obtain ⟨d, hd, e⟩ := merge_mem h.L hc
    rcases List.mem_append.1 hd with q | q
    · have := hP.ix d q; exact ⟨by omega, by omega, (h.L.nz c hc).2⟩
    · have := hX.ix d q; exact ⟨by omega, by omega, (h.L.nz c hc).2⟩, by rw [h.n]; omega, h.hs, h.hc, by rw [h.mn]; exact endF_lt hP.h1 hX.h1, by rw [h.mx]; exact endF_lt hP.h2 hX.h2⟩
/-- What comes of the first i parts. -/
inductive FoldR (X : Nat → Pt) : Nat → Pt → Prop
  | nil : FoldR X 0 Pt.nil
  | next {i : Nat} {P P' : Pt} : FoldR X i P → MrgR P (X i) P' → FoldR X (i + 1) P'
theorem FoldR.ok {M : Nat} {X : Nat → Pt} {i : Nat} {P : Pt} (h : FoldR X i P) (hX : ∀ j, j < i → (X j).Ok M) : P.Ok M := by
  induction h with
  | nil => exact Pt.nil_ok M
  | next _ hm ih => exact hm.ok (ih (fun j hj => hX j (by omega))) (hX _ (Nat.lt_succ_self _))
theorem own_sn {W : World} {B : Nat} {v : Value} {L : List Cn} (h : W.ownsRow B 160 2 v L.length (fl L)) (hB : B ≤ W.heap.size) : SN W v L := GC.sn (B := B) (W0 := W) ⟨h, Below.refl _ _, hB⟩
/-- What a row's emptying tells and leaves. -/
def DrainsP (fd : FuncId) (pc : Value) (xs : List Int) (X : Pt) (ys : List Int) : Prop := ∀ (W : World) (g : Nat), RowW W g xs → Calls Tryz.prog fd #[pc, .pointer none, .slice (some ⟨g, 0, none⟩) xs.length xs.length] W fun e w' => ∃ ao k cap, e = .returned (.agg #[.int .i64 X.hi, .int .u64 X.lo, .slice ao k cap, .int .u64 (X.n : Int), .complex .f64 X.s X.c, .float .f64 X.mn, .float .f64 X.mx]) ∧ Hid (SN w' (.slice ao k cap) X.L) ∧ Hid (RowW w' g ys) ∧ Hid (Mid g (g + 1) W w')
/-- Where Drain stands. -/
structure DrP (M : Nat) (R : List Rw) (X : Nat → Pt) (w : World) (i : Nat) (wr : World) : Prop where
  wh : Wh R w i wr
  res : wr.heap[w.heap.size]? = some (.cells #[.int .i64 0, .int .u64 0, .slice none 0 0, .int .u64 0, .complex .f64 0 0, .float .f64 0, .float .f64 0] 184 (0, 0))
  all : ∃ (P : Pt) (ao : Option Addr) (k cap : Nat), FoldR X i P ∧ P.Ok M ∧ wr.heap[w.heap.size + 1]? = some (.cells #[.int .i64 P.hi, .int .u64 P.lo, .slice ao k cap, .int .u64 (P.n : Int), .complex .f64 P.s P.c, .float .f64 P.mn, .float .f64 P.mx] 184 (0, 0)) ∧ wr.ownsRow w.heap.size 160 2 (.slice ao k cap) P.L.length (fl P.L)
/-- What Drain tells. -/
def DrPQ (M : Nat) (R : List Rw) (X : Nat → Pt) (w : World) (e : Ending) (w' : World) : Prop := ∃ (P : Pt) (ao : Option Addr) (k cap : Nat), e = .returned (.tuple #[.agg #[.int .i64 P.hi, .int .u64 P.lo, .slice ao k cap, .int .u64 (P.n : Int), .complex .f64 P.s P.c, .float .f64 P.mn, .float .f64 P.mx], .int .i64 0]) ∧ FoldR X R.length P ∧ P.Ok M ∧ w'.ownsRow w.heap.size 160 2 (.slice ao k cap) P.L.length (fl P.L) ∧ Wh R w R.length w'
theorem drp_start {M : Nat} {T : TypeId} {s c b h : Nat} {R : List Rw} {X : Nat → Pt} {w w2 : World} (hB : Buf T s c b h R w) (g0 : w2.heap[w.heap.size]? = some (.cells #[.int .i64 0, .int .u64 0, .slice none 0 0, .int .u64 0, .complex .f64 0 0, .float .f64 0, .float .f64 0] 184 (0, 0))) (g1 : w2.heap[w.heap.size + 1]? = some (.cells #[.int .i64 0, .int .u64 0, .slice none 0 0, .int .u64 0, .complex .f64 0 0, .float .f64 0, .float .f64 0] 184 (0, 0))) (hb : Below w.heap.size w w2) : DrP M R X w 0 w2 :=
  ⟨⟨Off.of_below hb, fun j _ h => by omega, fun j hj _ => (hB.left _ (List.getElem_mem hj)).below hb (hB.left _ (List.getElem_mem hj)).lt⟩, g0, Pt.nil, none, 0, 0, FoldR.nil, Pt.nil_ok M, g1, World.ownsRow_nil _ _ _ _⟩
theorem drp_cells {M : Nat} {T : TypeId} {s c b h i : Nat} {R : List Rw} {X : Nat → Pt} {w wr : World} (hB : Hid (Buf T s c b h R w)) (hI : Hid (DrP M R X w i wr)) (hi : i < R.length) :
    wr.cell? ⟨h, i, none⟩ = some (.slice (some ⟨R[i].g, 0, none⟩) R[i].xs.length R[i].xs.length) ∧ wr.cell? ⟨s, 0, none⟩ = some (.iface T (.pointer (some ⟨c, 0, none⟩))) := by
  have h1 := hB.out.rows i hi
  have h2 := hB.out.slab
  exact ⟨(World.cell?_of_block (hI.out.wh.off.block h (lt_of_cell h1) hB.out.h_ne)).trans h1, (World.cell?_of_block (hI.out.wh.off.block s (lt_of_cell h2) hB.out.s_ne)).trans h2⟩
theorem drp_all {M : Nat} {R : List Rw} {X : Nat → Pt} {w wr : World} {i : Nat} (hI : Hid (DrP M R X w i wr)) : ∃ (P : Pt) (ao : Option Addr) (k cap : Nat), Hid (FoldR X i P) ∧ Hid (P.Ok M) ∧ Hid (wr.heap[w.heap.size + 1]? = some (.cells #[.int .i64 P.hi, .int .u64 P.lo, .slice ao k cap, .int .u64 (P.n : Int), .complex .f64 P.s P.c, .float .f64 P.mn, .float .f64 P.mx] 184 (0, 0))) ∧ Hid (wr.ownsRow w.heap.size 160 2 (.slice ao k cap) P.L.length (fl P.L)) := hI.out.all
/-- Merge, by parts. -/
theorem pmerge_p {M : Nat} (hM : M ≤ 1048576) {P X : Pt} (hP : P.Ok M) (hX : X.Ok M) (v v' : Value) (W : World) (sP : SN W v P.L) (sX : SN W v' X.L) :
    Calls Tryz.prog 88 #[.agg #[.int .i64 P.hi, .int .u64 P.lo, v, .int .u64 (P.n : Int), .complex .f64 P.s P.c, .float .f64 P.mn, .float .f64 P.mx], .agg #[.int .i64 X.hi, .int .u64 X.lo, v', .int .u64 (X.n : Int), .complex .f64 X.s X.c, .float .f64 X.mn, .float .f64 X.mx]] W fun e w' => ∃ (P' : Pt) (ao : Option Addr) (k cap : Nat), e = .returned (.agg #[.int .i64 P'.hi, .int .u64 P'.lo, .slice ao k cap, .int .u64 (P'.n : Int), .complex .f64 P'.s P'.c, .float .f64 P'.mn, .float .f64 P'.mx]) ∧ Hid (MrgR P X P') ∧ Hid (w'.ownsRow W.heap.size 160 2 (.slice ao k cap) P'.L.length (fl P'.L)) ∧ Hid (Below W.heap.size W w') := by
  have l1 := hP.len
  have l2 := hX.len
  have wc : Wc (P.L ++ X.L) := fun c hc => by
    rcases List.mem_append.1 hc with q | q
    · exact hP.wc hM c q
    · exact hX.wc hM c q
  refine Calls.mono (cpmerge_any P.hi P.lo X.hi X.lo v v' P.n X.n P.s P.c X.s X.c P.mn P.mx X.mn X.mx P.L X.L W hP.wf hX.wf sP sX wc (by omega) (by omega) hP.hs hP.hc hX.hs hX.hc hP.h1 hP.h2 hX.h1 hX.h2) ?_
  rintro e w' ⟨v'', O, r, q, rfl, hI, hG, hr, hq, h1, h2⟩
  obtain ⟨ao, k, cap, rfl⟩ := gc_form hG
  exact ⟨⟨_, _, O, _, r, q, _, _⟩, ao, k, cap, rfl, ⟨rfl, rfl, hI, rfl, h1, h2, rfl, rfl, hr, hq⟩, hG.own, hG.below⟩
theorem drp_next {M : Nat} {R : List Rw} {X : Nat → Pt} {w wr w1 w2 : World} {i g : Nat} {P P' : Pt} {_ao ao2 : Option Addr} {k2 c2 : Nat} {r0 r1 r2 r3 r4 r5 r6 : Value} (hI : Hid (DrP M R X w i wr)) (hW : Wh R w (i + 1) w1) (hg : ¬ (g ≤ w.heap.size ∧ w.heap.size < g + 1)) (hM : Mid g (g + 1) wr w1) (hb : Below w1.heap.size w1 w2) (hl : ∀ r ∈ R, r.g < w.heap.size) (hF : FoldR X i P) (hP : P.Ok M) (hX : (X i).Ok M) (hR : MrgR P (X i) P') (hA : w2.heap[w.heap.size + 1]? = some (.cells #[r0, r1, r2, r3, r4, r5, r6] 184 (0, 0))) (ho : w2.ownsRow w1.heap.size 160 2 (.slice ao2 k2 c2) P'.L.length (fl P'.L)) :
    DrP M R X w (i + 1) (put7 w2 (w.heap.size + 1) (.int .i64 P'.hi) (.int .u64 P'.lo) (.slice ao2 k2 c2) (.int .u64 (P'.n : Int)) (.complex .f64 P'.s P'.c) (.float .f64 P'.mn) (.float .f64 P'.mx)) := by
  have hr := hI.out.res
  have h1 : w1.heap[w.heap.size]? = _ := (hM.block _ (Array.getElem?_eq_some_iff.1 hr).1 hg).trans hr
  have h2 : w2.heap[w.heap.size]? = _ := (hb.block _ (Array.getElem?_eq_some_iff.1 h1).1).trans h1
  have hs1 : w.heap.size ≤ w1.heap.size := by have := (Array.getElem?_eq_some_iff.1 h1).1; omega
  have hne : (Value.slice ao2 k2 c2).ownBlock ≠ some (w.heap.size + 1) := own_nty ho hA (by decide)
  exact ⟨(hW.below hb).put hl (by omega) _ _ _ _ _ _ _, by rw [put7_other _ _ _ _ _ _ _ _ _ _ (by omega)]; exact h2, P', ao2, k2, c2, hF.next hR, hR.ok hP hX, set_seven hA, own_mid_ne (own_le ho hs1) (mid_put7 _ _ _ _ _ _ _ _ _) hne⟩
set_option maxRecDepth 10000 in
set_option maxHeartbeats 8000000 in
theorem drainP_histogram (M : Nat) (hM : M ≤ 1048576) (s c b h : Nat) (hb : b < 2) (R : List Rw) (X : Nat → Pt) (w : World) (hB : Buf 299 s c b h R w) (hD : ∀ i (hi : i < R.length), DrainsP 306 (.pointer (some ⟨c, 0, none⟩)) R[i].xs (X i) R[i].ys ∧ (X i).Ok M) (hR : R.length < 1000) :
    Calls Tryz.prog 86 #[.pointer (some ⟨s, 0, none⟩), .pointer none, .int .i64 (b : Int)] w fun e w' => DrPQ M R X w e w' := by
  obtain ⟨cap, hheld⟩ := hB.held
  have hslab := hB.slab
  obtain ⟨w2, hw2⟩ : ∃ w2, (w.alloc (.cells #[.int .i64 0, .int .u64 0, .slice none 0 0, .int .u64 0, .complex .f64 0 0, .float .f64 0, .float .f64 0] 184)).alloc (.cells #[.int .i64 0, .int .u64 0, .slice none 0 0, .int .u64 0, .complex .f64 0 0, .float .f64 0, .float .f64 0] 184) = w2 := ⟨_, rfl⟩
  have hb2 : Below w.heap.size w w2 := by rw [← hw2]; exact bel2 _ _ _
  have g0 : w2.heap[w.heap.size]? = some (.cells #[.int .i64 0, .int .u64 0, .slice none 0 0, .int .u64 0, .complex .f64 0 0, .float .f64 0, .float .f64 0] 184 (0, 0)) := by rw [← hw2]; exact Pr.new1 _ _ _
  have g1 : w2.heap[w.heap.size + 1]? = some (.cells #[.int .i64 0, .int .u64 0, .slice none 0 0, .int .u64 0, .complex .f64 0 0, .float .f64 0, .float .f64 0] 184 (0, 0)) := by rw [← hw2]; exact Pr.new2 _ _ _
  have HI : Hid (DrP M R X w 0 w2) := drp_start hB g0 g1 hb2
  have HB : Hid (∀ W, _) := isbuf_any b (by omega) (by omega)
  have hl := lt_of_cell hslab
  have hl2 := lt_of_cell hheld
  have hs2 : w2.cell? ⟨s, 0, none⟩ = some (.iface 299 (.pointer (some ⟨c, 0, none⟩))) := (hb2.cell (p := ⟨s, 0, none⟩) hl).trans hslab
  have hc2 : w2.cell? ⟨c, b, none⟩ = some (.slice (some ⟨h, 0, none⟩) R.length cap) := (hb2.cell (p := ⟨c, b, none⟩) hl2).trans hheld
  have HRo : Hid (∀ _ : Unit, _) := fun _ => rows_any c b hb (.slice (some ⟨h, 0, none⟩) R.length cap) w2 hc2
  have HBf : Hid (Buf 299 s c b h R w) := hB
  have HDr : Hid (∀ i (hi : i < R.length), DrainsP 306 (.pointer (some ⟨c, 0, none⟩)) R[i].xs (X i) R[i].ys ∧ (X i).Ok M) := hD
  clear hB hD hheld hslab g0 g1 hc2
  go_enter Tryz.func86, Tryz.ntmps86
  go_wp2_with (first | (go_at_call 132; refine (HB.out _).mono ?_; rintro e w1 ⟨rfl, rfl⟩) | (go_at_call 299; refine Calls.mono (HRo.out ()) ?_; rintro e w1 ⟨rfl, rfl⟩))
  clear hw2 hs2
  go_loopw [22] (fun a wr => ∃ i : Nat, i ≤ R.length ∧ a = .int .i64 (i : Int) ∧ Hid (DrP M R X w i wr)) (fun a _ => R.length - (intOf a).toNat)
  case atStart => exact ⟨0, by omega, rfl, HI.out⟩
  case round =>
    obtain ⟨i, hi, rfl, HIi⟩ := hrel
    by_cases hlt : i < R.length
    · have hlt' : (i : Int) < (R.length : Int) := by omega
      obtain ⟨hrow, hsl⟩ := drp_cells HBf HIi hlt
      obtain ⟨P, ao, ka, ca, HF, HP, HA, HO⟩ := drp_all HIi
      obtain ⟨q0, q1, q2, q3, q4, q5, q6⟩ := seven_cells HA
      obtain ⟨f0, f1, f2, f3, f4, f5, f6⟩ := seven_fr HA
      have HRW : Hid (RowW wr R[i].g R[i].xs) := HIi.out.wh.left i hlt (Nat.le_refl _)
      have HRWd : Hid (RowW wr.drew R[i].g R[i].xs) := HRW
      have HDi := HDr.out i hlt
      have hgl : R[i].g < w.heap.size := (HBf.out.left _ (List.getElem_mem hlt)).lt
      have HD : Hid (∀ W, RowW W R[i].g R[i].xs → Calls Tryz.prog 306 #[.pointer (some ⟨c, 0, none⟩), .pointer none, .slice (some ⟨R[i].g, 0, none⟩) R[i].xs.length R[i].xs.length] W fun e w' => ∃ ao k cap, e = .returned (.agg #[.int .i64 (X i).hi, .int .u64 (X i).lo, .slice ao k cap, .int .u64 ((X i).n : Int), .complex .f64 (X i).s (X i).c, .float .f64 (X i).mn, .float .f64 (X i).mx]) ∧ Hid (SN w' (.slice ao k cap) (X i).L) ∧ Hid (RowW w' R[i].g R[i].ys) ∧ Hid (Mid R[i].g (R[i].g + 1) W w')) := fun W => HDi.1 W R[i].g
      have HMg : Hid (∀ W v', wr.heap.size ≤ W.heap.size → Mid R[i].g (R[i].g + 1) wr W → SN W v' (X i).L → Calls Tryz.prog 88 #[.agg #[.int .i64 P.hi, .int .u64 P.lo, .slice ao ka ca, .int .u64 (P.n : Int), .complex .f64 P.s P.c, .float .f64 P.mn, .float .f64 P.mx], .agg #[.int .i64 (X i).hi, .int .u64 (X i).lo, v', .int .u64 ((X i).n : Int), .complex .f64 (X i).s (X i).c, .float .f64 (X i).mn, .float .f64 (X i).mx]] W fun e w' => ∃ (P' : Pt) (ao : Option Addr) (k cap : Nat), e = .returned (.agg #[.int .i64 P'.hi, .int .u64 P'.lo, .slice ao k cap, .int .u64 (P'.n : Int), .complex .f64 P'.s P'.c, .float .f64 P'.mn, .float .f64 P'.mx]) ∧ Hid (MrgR P (X i) P') ∧ Hid (w'.ownsRow W.heap.size 160 2 (.slice ao k cap) P'.L.length (fl P'.L)) ∧ Hid (Below W.heap.size W w')) := fun W v' hsz hm hS =>
        pmerge_p hM HP.out HDi.2 _ v' W (own_sn (own_mid HO.out hm (by omega)) (by have := HIi.out.wh.off.size; omega)) hS
      have HNx : Hid (∀ w1, RowW w1 R[i].g R[i].ys → Mid R[i].g (R[i].g + 1) wr w1 → Wh R w (i + 1) w1) := fun w1 h1 h2 => HIi.out.wh.next hlt HBf.out.nd h2 h1
      have HNA : Hid (¬ (R[i].g ≤ w.heap.size + 1 ∧ w.heap.size + 1 < R[i].g + 1)) := dr_apart HBf hlt
      have HOk : Hid ((X i).Ok M) := HDi.2
      clear HDi hgl
      have HNR : Hid (¬ (R[i].g ≤ w.heap.size ∧ w.heap.size < R[i].g + 1)) := dr_apart (k := 0) HBf hlt
      have HL : Hid (∀ r ∈ R, r.g < w.heap.size) := fun r hr => (HBf.out.left r hr).lt
      have HNext : Hid (∀ (w1 w2 : World) (P' : Pt) (ao2 : Option Addr) (k2 c2 : Nat) (r0 r1 r2 r3 r4 r5 r6 : Value), RowW w1 R[i].g R[i].ys → Mid R[i].g (R[i].g + 1) wr w1 → Below w1.heap.size w1 w2 → MrgR P (X i) P' → w2.heap[w.heap.size + 1]? = some (.cells #[r0, r1, r2, r3, r4, r5, r6] 184 (0, 0)) → w2.ownsRow w1.heap.size 160 2 (.slice ao2 k2 c2) P'.L.length (fl P'.L) → DrP M R X w (i + 1) (put7 w2 (w.heap.size + 1) (.int .i64 P'.hi) (.int .u64 P'.lo) (.slice ao2 k2 c2) (.int .u64 (P'.n : Int)) (.complex .f64 P'.s P'.c) (.float .f64 P'.mn) (.float .f64 P'.mx))) := fun w1 w2 P' ao2 k2 c2 r0 r1 r2 r3 r4 r5 r6 a1 a2 a3 a4 a5 a6 => drp_next (_ao := ao) HIi (HNx.out w1 a1 a2) HNR.out a2 a3 HL.out HF.out HP.out HOk.out a4 a5 a6
      clear HNx HOk HNR HL HF HP
      generalize R[i].g = g at *
      generalize R[i].xs = xs at *
      generalize R[i].ys = ys at *
      generalize X i = Xi at *
      go_wp2_with fail
      have HAd := hid_drew HA
      have sF := store_f
      have sC := store_c
      go_region_with (first
        | (go_at_call 306; with_reducible refine Calls.mono (HD.out _ (by first | with_reducible exact HRWd.out | with_reducible exact HRW.out)) ?_; rintro e w1 ⟨ao1, k1, c1, rfl, HS1, HR1, HM1⟩; have HA1 := hid_mid HAd HM1 HNA.out; obtain ⟨q0, q1, q2, q3, q4, q5, q6⟩ := seven_cells HA1)
        | (go_at_call 88; with_reducible refine Calls.mono (HMg.out _ _ (mid_drew HM1.out).size (mid_drew HM1.out) HS1.out) ?_; rintro e w2 ⟨P', ao2, k2, c2, rfl, HR2, HO2, HB2⟩; have HA2 := hid_kept HA1 HB2; obtain ⟨p0, p1, p2, p3, p4, p5, p6⟩ := seven_cells HA2; obtain ⟨f0, f1, f2, f3, f4, f5, f6⟩ := seven_fr HA2))
      all_goals
        go_wp2_with fail
        exact ⟨⟨i + 1, by omega, by simp, by rw [put7_eq]; exact HNext.out w1 w2 P' ao2 k2 c2 _ _ _ _ _ _ _ HR1.out (mid_drew HM1.out) HB2.out HR2.out HA2.out HO2.out⟩, by simp [intOf]; omega⟩
    · obtain rfl : i = R.length := by omega
      have hlt' : ¬ (R.length : Int) < (R.length : Int) := by omega
      have HRs : Hid _ := HIi.out.res
      obtain ⟨P, ao, ka, ca, HF, HP, HA, HO⟩ := drp_all HIi
      obtain ⟨q0, q1, q2, q3, q4, q5, q6⟩ := seven_cells HA
      obtain ⟨p0, p1, p2, p3, p4, p5, p6⟩ := seven_cells HRs
      obtain ⟨f0, f1, f2, f3, f4, f5, f6⟩ := seven_fr HRs
      have sF := store_f
      have sC := store_c
      have HL : Hid (∀ r ∈ R, r.g < w.heap.size) := fun r hr => (HBf.out.left r hr).lt
      have HQ : Hid (∀ w', w'.ownsRow w.heap.size 160 2 (.slice ao ka ca) P.L.length (fl P.L) → Wh R w R.length w' → DrPQ M R X w (.returned (.tuple #[.agg #[.int .i64 P.hi, .int .u64 P.lo, .slice ao ka ca, .int .u64 (P.n : Int), .complex .f64 P.s P.c, .float .f64 P.mn, .float .f64 P.mx], .int .i64 0])) w') := fun w' h1 h2 => ⟨P, ao, ka, ca, rfl, HF.out, HP.out, h1, h2⟩
      go_wp2_with fail
      rw [put7_eq]
      have HE := set_seven (v0 := .int .i64 P.hi) (v1 := .int .u64 P.lo) (v2 := .slice ao ka ca) (v3 := .int .u64 (P.n : Int)) (v4 := .complex .f64 P.s P.c) (v5 := .float .f64 P.mn) (v6 := .float .f64 P.mx) HRs.out
      obtain ⟨z0, z1, z2, z3, z4, z5, z6⟩ := seven_cells HE
      simp [bodyPost, results, Tryz.results86, go_sem, z0, z1, z2, z3, z4, z5, z6]
      exact HQ.out _ (own_mid_ne HO.out (mid_put7 _ _ _ _ _ _ _ _ _) (own_nty HO.out HRs.out (by decide))) (HIi.out.wh.put HL.out (Nat.le_refl _) _ _ _ _ _ _ _)
end Go.Proofs.YtfnohbalkpponaaGreatDoor
/- THE DOCUMENT's MACHINE: a call and the machine in memory. Own work of the verifier. -/
namespace Go.Proofs.YtfnohbalkpponaaGreatDoor
open Go.RowKit

/-- A call that is under way. -/
structure Cl where
  kind : Int
  x : Nat
  id : Int
  n : Int
  f : Int
  at_ : Int
  phase : Int
  buffer : Int
  tov : Value
  why : Int
  told : Int
  rest : Int
  steps : Int
  pt : Bool
  done : Bool
  e : Int
def Cl.arr (c : Cl) : Array Value := #[.int .i64 c.kind, .int .i64 0, .string ⟨#[]⟩, .string ⟨#[]⟩, .slice none 0 0, .pointer (some ⟨c.x, 0, none⟩), .int .i64 c.id, .int .i64 c.n, .int .u64 c.f, .int .i64 c.at_, .int .i64 0, .int .i64 c.phase, .int .i64 0, .int .i64 c.buffer, .int .i64 0, .slice none 0 0, .slice none 0 0, c.tov, .int .i64 c.why, .int .u64 c.told, .int .u64 c.rest, .int .i64 c.steps, .int .i64 0, .bool c.pt, .bool c.done, .int .i64 c.e, .int .i64 0, .pointer none, .int .i64 0, .slice none 0 0, .int .u64 0]
/-- The machine. -/
structure Mc where
  st : Int
  pr : Int
  start : Int
  even : Int
  odd : Int
  a : Int
  r0 : Int
  r1 : Int
  l : Value
def Mc.arr (m : Mc) : Array Value := #[.int .i64 m.st, .int .i64 m.pr, .int .i64 0, .int .i64 0, .int .i64 0, .int .i64 m.start, .int .i64 m.even, .int .i64 m.odd, .int .i64 m.a, .int .i64 m.r0, .int .i64 m.r1, m.l, .slice none 0 0, .int .u64 0]
/-- A row of the document's cells. -/
def RowD (w : World) (g : Nat) (xs : List Int) : Prop := w.heap[g]? = some (.cells (xs.map fun x => Value.int .i64 x).toArray 2 (0, 0))
/-- A call, the machine, and the row that it lays into. -/
structure Dst (cb mb rb : Nat) (c : Cl) (m : Mc) (row : List Int) (w : World) : Prop where
  call : w.heap[cb]? = some (.cells c.arr 112 (0, 0))
  mach : w.heap[mb]? = some (.cells m.arr 102 (0, 0))
  rowd : RowD w rb row
section
variable {cb mb rb : Nat} {c : Cl} {m : Mc} {row : List Int} {w : World}
theorem Dst.ne (h : Dst cb mb rb c m row w) : ¬ cb = mb ∧ ¬ mb = cb ∧ ¬ cb = rb ∧ ¬ rb = cb ∧ ¬ mb = rb ∧ ¬ rb = mb := by
  have h1 := h.call; have h2 := h.mach; have h3 := h.rowd
  unfold RowD at h3
  have a1 : cb ≠ mb := fun e => by rw [e, h2] at h1; injection h1 with h1; injection h1 with _ h1; exact absurd h1 (by decide)
  have a2 : cb ≠ rb := fun e => by rw [e, h3] at h1; injection h1 with h1; injection h1 with _ h1; exact absurd h1 (by decide)
  have a3 : mb ≠ rb := fun e => by rw [e, h3] at h2; injection h2 with h2; injection h2 with _ h2; exact absurd h2 (by decide)
  exact ⟨a1, a1.symm, a2, a2.symm, a3, a3.symm⟩
theorem Dst.cc (h : Dst cb mb rb c m row w) (o : Nat) (v : Value) (e : c.arr[o]? = some v) : w.cell? ⟨cb, o, none⟩ = some v := by simp [World.cell?, h.call, e]
theorem Dst.mm (h : Dst cb mb rb c m row w) (o : Nat) (v : Value) (e : m.arr[o]? = some v) : w.cell? ⟨mb, o, none⟩ = some v := by simp [World.cell?, h.mach, e]
theorem Dst.rr (h : Dst cb mb rb c m row w) (i : Nat) (x : Int) (e : row[i]? = some x) : w.cell? ⟨rb, i, none⟩ = some (.int .i64 x) := by
  have h3 := h.rowd
  unfold RowD at h3
  simp [World.cell?, h3, e]
theorem Dst.rf (h : Dst cb mb rb c m row w) (o : Nat) : w.frozen? ⟨rb, o, none⟩ = false := by
  have h3 := h.rowd
  unfold RowD at h3
  simp [World.frozen?, h3]
theorem Dst.drew (h : Dst cb mb rb c m row w) : Dst cb mb rb c m row w.drew := ⟨h.call, h.mach, h.rowd⟩
end
/-- The blocks that a call may change. -/
abbrev D3 (cb mb rb : Nat) : Nat → Prop := fun x => x = cb ∨ x = mb ∨ x = rb
end Go.Proofs.YtfnohbalkpponaaGreatDoor
