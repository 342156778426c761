/- EXACT SUMS, the document's. Own work of the verifier. -/
import Derived.Test.YtdlaloakochfeaaB7
namespace Go.Proofs.Ytdlaloakochfeaa
open Go.RowKit Soft

/-- Two whole numbers, at a block of memory. -/
structure ExAt (W : World) (g P N : Nat) : Prop where
  a : ∃ va, W.cell? ⟨g, 0, none⟩ = some va ∧ BigAt W va P
  b : ∃ vb, W.cell? ⟨g, 1, none⟩ = some vb ∧ BigAt W vb N
  fr : ∀ o, W.frozen? ⟨g, o, none⟩ = false
  ni : ∀ o n, W.cell? ⟨g, o, none⟩ ≠ some (.int .u32 n)
/-- Nothing of what was there changes but in one block. -/
structure Exc (g : Nat) (w w' : World) : Prop where
  os : w'.os = w.os
  tape : w'.tape = w.tape
  output : w'.output = w.output
  size : w.heap.size ≤ w'.heap.size
  block : ∀ k, k < w.heap.size → k ≠ g → w'.heap[k]? = w.heap[k]?
theorem Exc.below {g : Nat} {w w' : World} (h : Exc g w w') {B : Nat} (hB : B ≤ g) (hs : B ≤ w.heap.size) : Below B w w' :=
  ⟨h.os, h.tape, h.output, h.size, fun k hk => h.block k (by omega) (by omega)⟩
theorem Exc.of {g : Nat} {w w1 : World} (h : Below w.heap.size w w1) (k : Nat) (u : Value) : Exc g w (w1.setCell ⟨g, k, none⟩ u) :=
  ⟨h.os, h.tape, h.output, by rw [World.size_setCell]; exact h.size, fun i hi hg => by rw [Below.heap_setCell _ _ _ _ hg]; exact h.block i hi⟩
theorem Exc.cell {g : Nat} {w w' : World} (h : Exc g w w') {b o : Nat} {v : Value} (hc : w.cell? ⟨b, o, none⟩ = some v) (hp : b ≠ g) : w'.cell? ⟨b, o, none⟩ = some v := by
  have hlt : b < w.heap.size := lt_of_cell hc
  unfold World.cell? at hc ⊢
  rw [h.block b hlt hp]; exact hc
theorem BigAt.exc {g : Nat} {W W' : World} {v : Value} {N : Nat} (h : BigAt W v N) (hn : ∀ o n, W.cell? ⟨g, o, none⟩ ≠ some (.int .u32 n)) (hx : Exc g W W') : BigAt W' v N := by
  obtain ⟨ao, b, o, cap, L, h1, h2, h3, h4⟩ := h
  refine ⟨ao, b, o, cap, L, h1, ⟨h2.addr, h2.lc, h2.mx, h2.small, fun i hi => ?_⟩, h3, h4⟩
  have hc := h2.row i hi
  refine hx.cell hc ?_
  intro e
  subst e
  exact hn _ _ hc
theorem ExAt.below {g : Nat} {W W' : World} {P N : Nat} (h : ExAt W g P N) (hb : Below W.heap.size W W') : ExAt W' g P N := by
  obtain ⟨va, a1, a2⟩ := h.a
  obtain ⟨vb, b1, b2⟩ := h.b
  have hl : g < W.heap.size := lt_of_cell a1
  refine ⟨⟨va, by rw [hb.cell (p := ⟨g, 0, none⟩) hl]; exact a1, a2.below hb⟩, ⟨vb, by rw [hb.cell (p := ⟨g, 1, none⟩) hl]; exact b1, b2.below hb⟩, fun o => ?_, fun o n => ?_⟩
  · rw [hb.frozen (p := ⟨g, o, none⟩) hl]; exact h.fr o
  · rw [hb.cell (p := ⟨g, o, none⟩) hl]; exact h.ni o n
theorem ExAt.other {g g2 : Nat} {W W' : World} {P N P1 N1 : Nat} (h : ExAt W g P N) (k : ExAt W g2 P1 N1) (hne : g2 ≠ g) (hx : Exc g W W') : ExAt W' g2 P1 N1 := by
  obtain ⟨va, a1, a2⟩ := k.a
  obtain ⟨vb, b1, b2⟩ := k.b
  have hl : g2 < W.heap.size := lt_of_cell a1
  have hc : ∀ o, W'.cell? ⟨g2, o, none⟩ = W.cell? ⟨g2, o, none⟩ := fun o => by unfold World.cell?; rw [hx.block g2 hl hne]
  have hf : ∀ o, W'.frozen? ⟨g2, o, none⟩ = W.frozen? ⟨g2, o, none⟩ := fun o => by unfold World.frozen?; rw [hx.block g2 hl hne]
  exact ⟨⟨va, by rw [hc]; exact a1, a2.exc h.ni hx⟩, ⟨vb, by rw [hc]; exact b1, b2.exc h.ni hx⟩, fun o => by rw [hf]; exact k.fr o, fun o n => by rw [hc]; exact k.ni o n⟩
theorem store_slice (W : World) (g k : Nat) (ao : Option Addr) (n cap : Nat) (v : Value) (hc : W.cell? ⟨g, k, none⟩ = some v) (hf : W.frozen? ⟨g, k, none⟩ = false) :
    (store ⟨g, k, none⟩ (.slice ao n cap)).run Try.prog W = .ok () (W.setCell ⟨g, k, none⟩ (.slice ao n cap)) := by
  rw [run_store _ _ _ _ _ rfl]
  simp [hc, hf]
/-- The number above, put anew. -/
theorem ExAt.set0 {g : Nat} {W : World} {P N Q : Nat} {v : Value} (h : ExAt W g P N) (hv : BigAt W v Q) : ExAt (W.setCell ⟨g, 0, none⟩ v) g Q N := by
  obtain ⟨va, a1, a2⟩ := h.a
  obtain ⟨vb, b1, b2⟩ := h.b
  have hx : Exc g W (W.setCell ⟨g, 0, none⟩ v) := Exc.of (Below.refl _ _) 0 v
  refine ⟨⟨v, World.cell?_setCell_same W _ _ a1, hv.exc h.ni hx⟩, ⟨vb, ?_, b2.exc h.ni hx⟩, fun o => by rw [World.frozen?_setCell]; exact h.fr o, fun o n => ?_⟩
  · rw [World.cell?_setCell_other W ⟨g, 0, none⟩ ⟨g, 1, none⟩ _ (fun c => by injection c with _ c; cases c)]; exact b1
  · by_cases e : o = 0
    · subst e
      rw [World.cell?_setCell_same W _ _ a1]
      obtain ⟨ao, b, o, cap, L, h1, _⟩ := hv
      rw [h1]; intro k; cases k
    · rw [World.cell?_setCell_other W ⟨g, 0, none⟩ ⟨g, o, none⟩ _ (fun c => e (by injection c with _ c; first | exact c.symm | exact c))]; exact h.ni o n
/-- The number below, put anew. -/
theorem ExAt.set1 {g : Nat} {W : World} {P N Q : Nat} {v : Value} (h : ExAt W g P N) (hv : BigAt W v Q) : ExAt (W.setCell ⟨g, 1, none⟩ v) g P Q := by
  obtain ⟨va, a1, a2⟩ := h.a
  obtain ⟨vb, b1, b2⟩ := h.b
  have hx : Exc g W (W.setCell ⟨g, 1, none⟩ v) := Exc.of (Below.refl _ _) 1 v
  refine ⟨⟨va, ?_, a2.exc h.ni hx⟩, ⟨v, World.cell?_setCell_same W _ _ b1, hv.exc h.ni hx⟩, fun o => by rw [World.frozen?_setCell]; exact h.fr o, fun o n => ?_⟩
  · rw [World.cell?_setCell_other W ⟨g, 1, none⟩ ⟨g, 0, none⟩ _ (fun c => by injection c with _ c; cases c)]; exact a1
  · by_cases e : o = 1
    · subst e
      rw [World.cell?_setCell_same W _ _ b1]
      obtain ⟨ao, b, o, cap, L, h1, _⟩ := hv
      rw [h1]; intro k; cases k
    · rw [World.cell?_setCell_other W ⟨g, 1, none⟩ ⟨g, o, none⟩ _ (fun c => e (by injection c with _ c; first | exact c.symm | exact c))]; exact h.ni o n
/-- Short enough. -/
def Sh (N : Nat) : Prop := ∃ K, K ≤ 1000 ∧ N < 4294967296 ^ K
theorem Sh.len {N : Nat} {L : List Nat} (h : Sh N) (hT : Trm L) (hb : bv L = N) : L.length ≤ 1000 := by
  obtain ⟨K, h1, h2⟩ := h
  exact Nat.le_trans (len_of hT (by rw [hb]; exact h2)) h1
set_option maxHeartbeats 2000000 in
theorem put_above (g : Nat) (x : Nat) (hx : x < 9223372036854775808) (w : World) (P N : Nat) (h : ExAt w g P N) (hP : Sh P) (hV : Sh (uV x)) :
    Calls Try.prog 10 #[.pointer (some ⟨g, 0, none⟩), .int .u64 (x : Int)] w fun e w' => e = .returned (.tuple #[]) ∧ ExAt w' g (P + uV x) N ∧ Exc g w w' := by
  have hW := whole_any x (by omega)
  rw [Nat.mod_eq_of_lt hx] at hW
  have s1 : bits .and .u64 (x : Int) 9223372036854775808 = 0 := by rw [sign_bit x (by omega), Nat.div_eq_of_lt hx]; rfl
  have HP : Hid (Sh P) := hP
  have HV : Hid (Sh (uV x)) := hV
  clear hP hV
  generalize uV x = V at *
  go_enter Try.func10, Try.ntmps10
  go_wp2_with (first
    | (go_at_call 19; with_reducible refine (hW _).mono ?_; rintro e w2 ⟨v2, rfl, hB2, hI2⟩; unfold BigIn at hI2; obtain ⟨b2, o2, cap2, T, hv2, hR2, hbv, hTrm⟩ := hI2; subst hv2
       have hE2 := h.below hB2
       obtain ⟨va, ha, hba⟩ := hE2.a
       unfold BigAt at hba
       obtain ⟨ao, b, o, cap, L, hva, hR, hbL, hTL⟩ := hba
       subst hva
       have hlT := HV.out.len hTrm hbv
       have hlL := HP.out.len hTL hbL
       have HL : Hid (bv L = P ∧ bv T = V) := ⟨hbL, hbv⟩
       clear hbL hbv)
    | (go_at_call 20; with_reducible refine (plus_rows _ b o cap L _ b2 o2 cap2 T w2 hR hR2 (by omega) (by omega)).mono ?_; rintro e w3 ⟨v3, rfl, hB3, hI3⟩
       rw [HL.out.1, HL.out.2] at hI3
       have HI3 : Hid (BigAt w3 v3 (P + V)) := hI3
       unfold BigAt at hI3; obtain ⟨ao3, b3, o3, cap3, T3, hv3, _⟩ := hI3; subst hv3
       have hE3 := hE2.below hB3
       have HE4 : Hid _ := hE3.set0 HI3.out
       obtain ⟨va3, ha3, _⟩ := hE3.a
       have hf3 : w3.frozen? ⟨g, 0, none⟩ = false := hE3.fr 0))
  refine bodyPost_end (results_none rfl _ _ _) rfl ?_
  exact ⟨rfl, HE4.out, Exc.of (hB2.trans (hB3.mono hB2.size)) 0 _⟩
set_option maxHeartbeats 2000000 in
theorem put_below (g : Nat) (x : Nat) (hx : 9223372036854775808 ≤ x) (hx2 : x < 18446744073709551616) (w : World) (P N : Nat) (h : ExAt w g P N) (hP : Sh N) (hV : Sh (uV (x - 9223372036854775808))) :
    Calls Try.prog 10 #[.pointer (some ⟨g, 0, none⟩), .int .u64 (x : Int)] w fun e w' => e = .returned (.tuple #[]) ∧ ExAt w' g P (N + uV (x - 9223372036854775808)) ∧ Exc g w w' := by
  have hW := whole_any x (by omega)
  rw [show x % 9223372036854775808 = x - 9223372036854775808 from by omega] at hW
  have s1 : bits .and .u64 (x : Int) 9223372036854775808 = 9223372036854775808 := by rw [sign_bit x (by omega), show x / 9223372036854775808 = 1 from by omega]; rfl
  have HP : Hid (Sh N) := hP
  have HV : Hid (Sh (uV (x - 9223372036854775808))) := hV
  clear hP hV
  generalize uV (x - 9223372036854775808) = V at *
  go_enter Try.func10, Try.ntmps10
  go_wp2_with (first
    | (go_at_call 19; with_reducible refine (hW _).mono ?_; rintro e w2 ⟨v2, rfl, hB2, hI2⟩; unfold BigIn at hI2; obtain ⟨b2, o2, cap2, T, hv2, hR2, hbv, hTrm⟩ := hI2; subst hv2
       have hE2 := h.below hB2
       obtain ⟨va, ha, hba⟩ := hE2.b
       unfold BigAt at hba
       obtain ⟨ao, b, o, cap, L, hva, hR, hbL, hTL⟩ := hba
       subst hva
       have hlT := HV.out.len hTrm hbv
       have hlL := HP.out.len hTL hbL
       have HL : Hid (bv L = N ∧ bv T = V) := ⟨hbL, hbv⟩
       clear hbL hbv)
    | (go_at_call 20; with_reducible refine (plus_rows _ b o cap L _ b2 o2 cap2 T w2 hR hR2 (by omega) (by omega)).mono ?_; rintro e w3 ⟨v3, rfl, hB3, hI3⟩
       rw [HL.out.1, HL.out.2] at hI3
       have HI3 : Hid (BigAt w3 v3 (N + V)) := hI3
       unfold BigAt at hI3; obtain ⟨ao3, b3, o3, cap3, T3, hv3, _⟩ := hI3; subst hv3
       have hE3 := hE2.below hB3
       have HE4 : Hid _ := hE3.set1 HI3.out
       obtain ⟨va3, ha3, _⟩ := hE3.b
       have hf3 : w3.frozen? ⟨g, 1, none⟩ = false := hE3.fr 1))
  refine bodyPost_end (results_none rfl _ _ _) rfl ?_
  exact ⟨rfl, HE4.out, Exc.of (hB2.trans (hB3.mono hB2.size)) 1 _⟩
end Go.Proofs.Ytdlaloakochfeaa
