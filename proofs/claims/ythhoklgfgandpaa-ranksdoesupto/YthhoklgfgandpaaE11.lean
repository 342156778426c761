/- THE WALK OF RanksDoes, for whatever keeps to the document. Own work of the verifier. -/
import Derived.Test.YthhoklgfgandpaaE10
namespace Go.Proofs.Ythhoklgfgandpaa
open Go.RowKit

theorem cells_below {w0 W : World} {g : Nat} {a b c d e f x y : Value} (hb : Below w0.heap.size w0 W) (hg : g < w0.heap.size) (h : w0.cell? ⟨g, 0, none⟩ = some a ∧ w0.cell? ⟨g, 1, none⟩ = some b ∧ w0.cell? ⟨g, 2, none⟩ = some c ∧ w0.cell? ⟨g, 3, none⟩ = some d ∧ w0.cell? ⟨g, 4, none⟩ = some e ∧ w0.cell? ⟨g, 5, none⟩ = some f ∧ w0.cell? ⟨g, 6, none⟩ = some x ∧ w0.cell? ⟨g, 7, none⟩ = some y) :
    W.cell? ⟨g, 0, none⟩ = some a ∧ W.cell? ⟨g, 1, none⟩ = some b ∧ W.cell? ⟨g, 2, none⟩ = some c ∧ W.cell? ⟨g, 3, none⟩ = some d ∧ W.cell? ⟨g, 4, none⟩ = some e ∧ W.cell? ⟨g, 5, none⟩ = some f ∧ W.cell? ⟨g, 6, none⟩ = some x ∧ W.cell? ⟨g, 7, none⟩ = some y := by
  rw [hb.cell (p := ⟨g, 0, none⟩) hg, hb.cell (p := ⟨g, 1, none⟩) hg, hb.cell (p := ⟨g, 2, none⟩) hg, hb.cell (p := ⟨g, 3, none⟩) hg, hb.cell (p := ⟨g, 4, none⟩) hg, hb.cell (p := ⟨g, 5, none⟩) hg, hb.cell (p := ⟨g, 6, none⟩) hg, hb.cell (p := ⟨g, 7, none⟩) hg]
  exact h
theorem wc_left {A C : List Cn} (h : Wc (A ++ C)) : Wc A := fun c hc => h c (List.mem_append_left _ hc)
/-- What stays while the law goes on. -/
def Held (w w0 : World) (p : Int) (v v' : Value) (r n : Nat) (num den y : Int) (W : World) : Prop := W.cell? ⟨w.heap.size, 0, none⟩ = some (.int .i64 p) ∧ W.cell? ⟨w.heap.size, 1, none⟩ = some v ∧ W.cell? ⟨w.heap.size, 2, none⟩ = some v' ∧ W.cell? ⟨w.heap.size, 3, none⟩ = some (.int .u64 (r : Int)) ∧ W.cell? ⟨w.heap.size, 4, none⟩ = some (.int .u64 (n : Int)) ∧ W.cell? ⟨w.heap.size, 5, none⟩ = some (.int .i64 num) ∧ W.cell? ⟨w.heap.size, 6, none⟩ = some (.int .i64 den) ∧ W.cell? ⟨w.heap.size, 7, none⟩ = some (.int .i64 y) ∧ Below w0.heap.size w0 W
theorem Held.all {w w0 W : World} {p : Int} {v v' : Value} {r n : Nat} {num den y : Int} (h : Held w w0 p v v' r n num den y W) : W.cell? ⟨w.heap.size, 0, none⟩ = some (.int .i64 p) ∧ W.cell? ⟨w.heap.size, 1, none⟩ = some v ∧ W.cell? ⟨w.heap.size, 2, none⟩ = some v' ∧ W.cell? ⟨w.heap.size, 3, none⟩ = some (.int .u64 (r : Int)) ∧ W.cell? ⟨w.heap.size, 4, none⟩ = some (.int .u64 (n : Int)) ∧ W.cell? ⟨w.heap.size, 5, none⟩ = some (.int .i64 num) ∧ W.cell? ⟨w.heap.size, 6, none⟩ = some (.int .i64 den) ∧ W.cell? ⟨w.heap.size, 7, none⟩ = some (.int .i64 y) ∧ Below w0.heap.size w0 W := h
theorem Held.b {w w0 W : World} {p : Int} {v v' : Value} {r n : Nat} {num den y : Int} (h : Held w w0 p v v' r n num den y W) : Below w0.heap.size w0 W := h.2.2.2.2.2.2.2.2
theorem Held.keep {w w0 W W' : World} {p : Int} {v v' : Value} {r n : Nat} {num den y : Int} (hb : Below W.heap.size W W') (h : Held w w0 p v v' r n num den y W) : Held w w0 p v v' r n num den y W' := by
  obtain ⟨k0, k1, k2, k3, k4, k5, k6, k7, k8⟩ := h
  obtain ⟨j0, j1, j2, j3, j4, j5, j6, j7⟩ := cells_below hb (lt_of_cell k0) ⟨k0, k1, k2, k3, k4, k5, k6, k7⟩
  exact ⟨j0, j1, j2, j3, j4, j5, j6, j7, bt k8 hb⟩
set_option maxRecDepth 10000 in
set_option maxHeartbeats 4000000 in
theorem does_walk (D : Doc 11 13 9 16 18 20 22) (F : ∀ W : World, Calls Try.prog 8 #[] W fun e w' => e = .returned (.bool true) ∧ Below W.heap.size W w')
    (p num den y : Int) (r n : Nat) (v v' : Value) (L M : List Cn) (hr : r < 18446744073709551616) (hn : n < 18446744073709551616) (hd : den < 9223372036854775808) (hL : L.length ≤ 1048576) (hM : M.length ≤ 1048576) (hW : Wc (L ++ M)) (w : World) (h : SN w v L) (h' : SN w v' M) :
    Calls Try.prog 4 #[.agg #[.int .i64 p, v, v', .int .u64 (r : Int), .int .u64 (n : Int), .int .i64 num, .int .i64 den, .int .i64 y]] w fun e w' => e = .returned (.bool true) ∧ Below w.heap.size w w' := by
  have HF : Hid (∀ W, _) := F
  obtain ⟨w0, hw0⟩ : ∃ w0, w0 = w.alloc (.cells #[.int .i64 p, v, v', .int .u64 (r : Int), .int .u64 (n : Int), .int .i64 num, .int .i64 den, .int .i64 y] 26) := ⟨_, rfl⟩
  have hb0 : Below w.heap.size w w0 := by rw [hw0]; exact (Below.refl w.heap.size w).alloc (Nat.le_refl _) _
  have hl0 : L.length ≤ 4194304 := by omega
  have hWL := wc_left hW
  have s0 : SN w0 v L := h.below hb0
  have s0' : SN w0 v' M := h'.below hb0
  obtain ⟨x, hx⟩ := mayIs_ex p L
  obtain ⟨ai, ae, hat⟩ : ∃ ai ae, atF L r = (ai, ae) := ⟨_, _, rfl⟩
  obtain ⟨rk, re, hrk⟩ : ∃ rk re, rkF n num den = (rk, re) := ⟨_, _, rfl⟩
  obtain ⟨qa, hqa⟩ : ∃ qa, (if x = 0 then (qF p.toNat L num den).1 else 0) = qa := ⟨_, rfl⟩
  obtain ⟨qe, hqe⟩ : ∃ qe, (if x = 0 then (qF p.toNat L num den).2 else x) = qe := ⟨_, rfl⟩
  obtain ⟨ma, hma⟩ : ∃ ma : Int, (if x = 0 then ((amN p.toNat L y : Nat) : Int) else 0) = ma := ⟨_, rfl⟩
  obtain ⟨tt, htt⟩ : ∃ tt : Nat, tot L = tt := ⟨_, rfl⟩
  have HCMay : Hid (∀ W, Held w w0 p v v' r n num den y W → Calls Try.prog 11 #[.int .i64 p, v] W fun e w' => e = .returned (.int .i64 x) ∧ Below W.heap.size W w') := fun W hB' => by
    have hB := hB'.b
    have := D.may W v L p x (s0.below hB) hWL hl0 hx
    exact this
  have HCTotal : Hid (∀ W, Held w w0 p v v' r n num den y W → Calls Try.prog 13 #[v] W fun e w' => e = .returned (.int .u64 (tt : Nat)) ∧ Below W.heap.size W w') := fun W hB' => by
    have hB := hB'.b
    have := D.total W v L (s0.below hB) hWL hl0
    rw [htt] at this
    exact this
  have HCAt : Hid (∀ W, Held w w0 p v v' r n num den y W → Calls Try.prog 9 #[v, .int .u64 (r : Int)] W fun e w' => e = two ai ae ∧ Below W.heap.size W w') := fun W hB' => by
    have hB := hB'.b
    have := D.at_ W v L r (s0.below hB) hWL hl0 hr
    rw [hat] at this
    exact this
  have HCRank : Hid (∀ W, Held w w0 p v v' r n num den y W → Calls Try.prog 18 #[.int .u64 (n : Int), .int .i64 num, .int .i64 den] W fun e w' => e = twoU (rk : Nat) re ∧ Below W.heap.size W w') := fun W hB' => by
    have hB := hB'.b
    have := D.rank W n num den hn hd
    rw [hrk] at this
    exact this
  have HCQuantile : Hid (∀ W, Held w w0 p v v' r n num den y W → Calls Try.prog 20 #[.int .i64 p, v, .int .i64 num, .int .i64 den] W fun e w' => e = two qa qe ∧ Below W.heap.size W w') := fun W hB' => by
    have hB := hB'.b
    have := D.quant W v L p num den x (s0.below hB) hWL hl0 hx hd
    rw [hqa, hqe] at this
    exact this
  have HCAtMost : Hid (∀ W, Held w w0 p v v' r n num den y W → Calls Try.prog 22 #[.int .i64 p, v, .int .i64 y] W fun e w' => e = twoU ma x ∧ Below W.heap.size W w') := fun W hB' => by
    have hB := hB'.b
    have := D.most W v L p y x (s0.below hB) hWL hl0 hx
    rw [hma] at this
    exact this
  have HCMerge : Hid (∀ W, Held w w0 p v v' r n num den y W → Calls Try.prog 16 #[v, v'] W fun e w' => ∃ m O, e = .returned m ∧ IsMerge O (L ++ M) ∧ GC W.heap.size W m O w') := fun W hB' => D.merge W v v' L M (s0.below hB'.b) (s0'.below hB'.b) hW hL hM
  have HRMay : Hid (∀ W, Held w w0 p v v' r n num den y W → Calls Try.prog 12 #[.int .i64 p, v] W fun e w' => e = .returned (.int .i64 x) ∧ Below W.heap.size W w') := fun W hB' => by
    have hB := hB'.b
    have := doc_ref.may W v L p x (s0.below hB) hWL hl0 hx
    exact this
  have HRTotal : Hid (∀ W, Held w w0 p v v' r n num den y W → Calls Try.prog 14 #[v] W fun e w' => e = .returned (.int .u64 (tt : Nat)) ∧ Below W.heap.size W w') := fun W hB' => by
    have hB := hB'.b
    have := doc_ref.total W v L (s0.below hB) hWL hl0
    rw [htt] at this
    exact this
  have HRAt : Hid (∀ W, Held w w0 p v v' r n num den y W → Calls Try.prog 10 #[v, .int .u64 (r : Int)] W fun e w' => e = two ai ae ∧ Below W.heap.size W w') := fun W hB' => by
    have hB := hB'.b
    have := doc_ref.at_ W v L r (s0.below hB) hWL hl0 hr
    rw [hat] at this
    exact this
  have HRRank : Hid (∀ W, Held w w0 p v v' r n num den y W → Calls Try.prog 19 #[.int .u64 (n : Int), .int .i64 num, .int .i64 den] W fun e w' => e = twoU (rk : Nat) re ∧ Below W.heap.size W w') := fun W hB' => by
    have hB := hB'.b
    have := doc_ref.rank W n num den hn hd
    rw [hrk] at this
    exact this
  have HRQuantile : Hid (∀ W, Held w w0 p v v' r n num den y W → Calls Try.prog 21 #[.int .i64 p, v, .int .i64 num, .int .i64 den] W fun e w' => e = two qa qe ∧ Below W.heap.size W w') := fun W hB' => by
    have hB := hB'.b
    have := doc_ref.quant W v L p num den x (s0.below hB) hWL hl0 hx hd
    rw [hqa, hqe] at this
    exact this
  have HRAtMost : Hid (∀ W, Held w w0 p v v' r n num den y W → Calls Try.prog 23 #[.int .i64 p, v, .int .i64 y] W fun e w' => e = twoU ma x ∧ Below W.heap.size W w') := fun W hB' => by
    have hB := hB'.b
    have := doc_ref.most W v L p y x (s0.below hB) hWL hl0 hx
    rw [hma] at this
    exact this
  have HRMerge : Hid (∀ W, Held w w0 p v v' r n num den y W → Calls Try.prog 17 #[v, v'] W fun e w' => ∃ m O, e = .returned m ∧ IsMerge O (L ++ M) ∧ GC W.heap.size W m O w') := fun W hB' => doc_ref.merge W v v' L M (s0.below hB'.b) (s0'.below hB'.b) hW hL hM
  have hS : Held w w0 p v v' r n num den y w0 := by
    obtain ⟨j0, j1, j2, j3, j4, j5, j6, j7⟩ : w0.cell? ⟨w.heap.size, 0, none⟩ = some (.int .i64 p) ∧ w0.cell? ⟨w.heap.size, 1, none⟩ = some v ∧ w0.cell? ⟨w.heap.size, 2, none⟩ = some v' ∧ w0.cell? ⟨w.heap.size, 3, none⟩ = some (.int .u64 (r : Int)) ∧ w0.cell? ⟨w.heap.size, 4, none⟩ = some (.int .u64 (n : Int)) ∧ w0.cell? ⟨w.heap.size, 5, none⟩ = some (.int .i64 num) ∧ w0.cell? ⟨w.heap.size, 6, none⟩ = some (.int .i64 den) ∧ w0.cell? ⟨w.heap.size, 7, none⟩ = some (.int .i64 y) := by rw [hw0]; simp [go_sem]
    exact ⟨j0, j1, j2, j3, j4, j5, j6, j7, Below.refl _ _⟩
  have HB0 : Hid (Below w.heap.size w w0) := hb0
  clear D F s0 s0' h h' hx hat hrk hqa hqe hma htt hb0 hW hWL
  go_enter Try.func4, Try.ntmps4
  go_wp2_with fail
  rw [← hw0]
  clear hw0
  refine Calls.mono (HCAt.out _ hS) ?_
  rintro e w1 ⟨rfl, hk⟩
  have hS1 := Held.keep hk hS
  clear hk hS
  obtain ⟨c0, c1, c2, c3, c4, c5, c6, c7, _⟩ := Held.all hS1
  go_wp2_with (go_at_call 10; with_reducible refine (HRAt.out _ hS1).mono ?_; rintro e w2 ⟨rfl, hk⟩)
  have hS2 := Held.keep hk hS1
  clear hk hS1 c0 c1 c2 c3 c4 c5 c6 c7
  have HU : Hid (∀ O1 O2 : List Cn, IsMerge O1 (L ++ M) → IsMerge O2 (L ++ M) → O1 = O2) := fun O1 O2 k1 k2 => k1.uniq k2
  go_region_held3 (fun W => W.cell? ⟨w.heap.size, 0, none⟩ = some (.int .i64 p) ∧ W.cell? ⟨w.heap.size, 1, none⟩ = some v ∧ W.cell? ⟨w.heap.size, 2, none⟩ = some v' ∧ W.cell? ⟨w.heap.size, 3, none⟩ = some (.int .u64 (r : Int)) ∧ W.cell? ⟨w.heap.size, 4, none⟩ = some (.int .u64 (n : Int)) ∧ W.cell? ⟨w.heap.size, 5, none⟩ = some (.int .i64 num) ∧ W.cell? ⟨w.heap.size, 6, none⟩ = some (.int .i64 den) ∧ W.cell? ⟨w.heap.size, 7, none⟩ = some (.int .i64 y) ∧ Below w0.heap.size w0 W)
    (first | assumption | exact Held.keep (by assumption) (by assumption) | exact Held.keep (below_drew _ _) (by assumption) | exact Held.keep (Below.drew (Below.refl _ _)) hS2)
    (first
      | (go_at_call 11; with_reducible refine (HCMay.out _ (by first | assumption | exact Held.keep (Below.drew (Below.refl _ _)) hS2)).mono ?_; rintro e w1 ⟨rfl, hk⟩; have hS' : Held w w0 p v v' r n num den y w1 := Held.keep hk (by first | assumption | exact Held.keep (Below.drew (Below.refl _ _)) hS2))
      | (go_at_call 12; with_reducible refine (HRMay.out _ (by first | assumption | exact Held.keep (Below.drew (Below.refl _ _)) hS2)).mono ?_; rintro e w1 ⟨rfl, hk⟩; have hS' : Held w w0 p v v' r n num den y w1 := Held.keep hk (by first | assumption | exact Held.keep (Below.drew (Below.refl _ _)) hS2))
      | (go_at_call 13; with_reducible refine (HCTotal.out _ (by first | assumption | exact Held.keep (Below.drew (Below.refl _ _)) hS2)).mono ?_; rintro e w1 ⟨rfl, hk⟩; have hS' : Held w w0 p v v' r n num den y w1 := Held.keep hk (by first | assumption | exact Held.keep (Below.drew (Below.refl _ _)) hS2))
      | (go_at_call 14; with_reducible refine (HRTotal.out _ (by first | assumption | exact Held.keep (Below.drew (Below.refl _ _)) hS2)).mono ?_; rintro e w1 ⟨rfl, hk⟩; have hS' : Held w w0 p v v' r n num den y w1 := Held.keep hk (by first | assumption | exact Held.keep (Below.drew (Below.refl _ _)) hS2))
      | (go_at_call 16; with_reducible refine (HCMerge.out _ (by first | assumption | exact Held.keep (Below.drew (Below.refl _ _)) hS2)).mono ?_; rintro e w1 ⟨m1, O1, rfl, hI1, hG1⟩; have hk := hG1.below; have hS' : Held w w0 p v v' r n num den y w1 := Held.keep hk (by first | assumption | exact Held.keep (Below.drew (Below.refl _ _)) hS2); have hs1 := hG1.sn; have hln1 := hG1.len)
      | (go_at_call 17; with_reducible refine (HRMerge.out _ (by first | assumption | exact Held.keep (Below.drew (Below.refl _ _)) hS2)).mono ?_; rintro e w1 ⟨m2, O2, rfl, hI2, hG2⟩; have hk := hG2.below; have hS' : Held w w0 p v v' r n num den y w1 := Held.keep hk (by first | assumption | exact Held.keep (Below.drew (Below.refl _ _)) hS2); have hs2 := hG2.sn; have hln2 := hG2.len; have hs3 := hs1.below hk)
      | (go_at_call 15; refine (same_sn hs3 hs2 hln1 hln2).mono ?_; rintro e w1 ⟨rfl, hk⟩; rw [decide_eq_true (HU.out _ _ hI1 hI2)]))
  have hT := Held.keep hk hS'
  clear hk hS' hS2 hs1 hs2 hs3 hI1 hI2 hG1 hG2 hln1 hln2
  obtain ⟨c0, c1, c2, c3, c4, c5, c6, c7, _⟩ := Held.all hT
  go_wp2_with (first
    | (go_at_call 18; with_reducible refine (HCRank.out _ hT).mono ?_; rintro e w1 ⟨rfl, hk⟩; replace hT := Held.keep hk hT; clear hk; obtain ⟨c0, c1, c2, c3, c4, c5, c6, c7, _⟩ := Held.all hT)
    | (go_at_call 20; with_reducible refine (HCQuantile.out _ hT).mono ?_; rintro e w1 ⟨rfl, hk⟩; replace hT := Held.keep hk hT; clear hk; obtain ⟨c0, c1, c2, c3, c4, c5, c6, c7, _⟩ := Held.all hT)
    | (go_at_call 22; with_reducible refine (HCAtMost.out _ hT).mono ?_; rintro e w1 ⟨rfl, hk⟩; replace hT := Held.keep hk hT; clear hk; obtain ⟨c0, c1, c2, c3, c4, c5, c6, c7, _⟩ := Held.all hT)
    | (go_at_call 19; with_reducible refine (HRRank.out _ hT).mono ?_; rintro e w1 ⟨rfl, hk⟩; replace hT := Held.keep hk hT; clear hk; obtain ⟨c0, c1, c2, c3, c4, c5, c6, c7, _⟩ := Held.all hT)
    | (go_at_call 21; with_reducible refine (HRQuantile.out _ hT).mono ?_; rintro e w1 ⟨rfl, hk⟩; replace hT := Held.keep hk hT; clear hk; obtain ⟨c0, c1, c2, c3, c4, c5, c6, c7, _⟩ := Held.all hT)
    | (go_at_call 23; with_reducible refine (HRAtMost.out _ hT).mono ?_; rintro e w1 ⟨rfl, hk⟩; replace hT := Held.keep hk hT; clear hk; obtain ⟨c0, c1, c2, c3, c4, c5, c6, c7, _⟩ := Held.all hT)
    | (go_at_call 8; with_reducible refine (HF.out _).mono ?_; rintro e w1 ⟨rfl, hk⟩; have hfin := bt (Held.b hT) hk))
  go_ret
  exact ⟨rfl, bt HB0.out hfin⟩
end Go.Proofs.Ythhoklgfgandpaa
