/- WHOLE NUMBERS OF ANY LENGTH, the document's: THE WALKS. Own work of the verifier. -/
import Derived.Test.YtdlaloakochfeaaK1
import Derived.Test.YtdlaloakochfeaaF1
import Derived.Test.YtdlaloakochfeaaBigMath
namespace Go.Proofs.Ytdlaloakochfeaa
open Go.RowKit Soft

def pV (n : Nat) : Value := .int .u32 (n : Int)
/-- Parts of 32 bits, one behind the other. -/
def RowP (w : World) (b o : Nat) (L : List Nat) : Prop := ∀ i (h : i < L.length), w.cell? ⟨b, o + i, none⟩ = some (.int .u32 ((L[i] : Nat) : Int))
theorem RowP.below {w w1 : World} {b o : Nat} {L : List Nat} {B : Nat} (h : RowP w b o L) (hb : Below B w w1) (hB : L ≠ [] → b < B) : RowP w1 b o L := fun i hi => by
  rw [hb.cell (p := ⟨b, o + i, none⟩) (hB (by intro k; rw [k] at hi; simp at hi))]; exact h i hi
theorem RowP.lt {w : World} {b o : Nat} {L : List Nat} (h : RowP w b o L) (hL : L ≠ []) : b < w.heap.size := by
  cases L with
  | nil => exact absurd rfl hL
  | cons x l => exact lt_of_cell (h 0 (by simp))
/-- A slice of parts. -/
structure RB (W : World) (ao : Option Addr) (b o cap : Nat) (L : List Nat) : Prop where
  addr : L ≠ [] → ao = some ⟨b, o, none⟩
  lc : L.length ≤ cap
  mx : cap ≤ 9223372036854775807
  small : B32 L
  row : RowP W b o L
theorem RB.below {W W1 : World} {ao : Option Addr} {b o cap : Nat} {L : List Nat} (h : RB W ao b o cap L) (hb : Below W.heap.size W W1) : RB W1 ao b o cap L :=
  ⟨h.addr, h.lc, h.mx, h.small, h.row.below hb (fun k => h.row.lt k)⟩
theorem sizeP (W : World) : (sizeOf 44).run Try.prog W = .ok 1 W := by simp [sizeOf]; rfl
set_option maxHeartbeats 1000000 in
theorem trim_any (ao : Option Addr) (b o cap : Nat) (L : List Nat) (w : World) (h : RB w ao b o cap L) :
    Calls Try.prog 29 #[.slice ao L.length cap] w fun e w' => ∃ n, e = .returned (.slice ao n cap) ∧ w' = w ∧ n ≤ L.length ∧ (∀ j (hj : j < L.length), n ≤ j → L[j] = 0) ∧ (∀ k (hk : k < L.length), n = k + 1 → L[k] ≠ 0) := by
  have hcp := h.lc
  have hmx := h.mx
  go_enter Try.func29, Try.ntmps29
  go_wp2_with fail
  go_loop [3] (fun a => ∃ n : Nat, n ≤ L.length ∧ a = .int .i64 (n : Int) ∧ Hid (∀ j (hj : j < L.length), n ≤ j → L[j] = 0)) (fun a => (intOf a).toNat)
  case atStart => exact ⟨L.length, by omega, rfl, fun j hj k => by omega⟩
  case round =>
    obtain ⟨n, hn, rfl, hz⟩ := hrel
    have hsl := slice_to 27 44 ao L.length cap n Try.underlying27 (by omega) sizeP
    by_cases h0 : n = 0
    · subst h0
      go_wp2_with (first | simp only [hsl])
      go_ret
      exact ⟨0, rfl, rfl, by omega, hz.out, fun k hk e => by omega⟩
    · obtain ⟨k, rfl⟩ : ∃ k, n = k + 1 := ⟨n - 1, by omega⟩
      obtain rfl := h.addr (by intro e; rw [e] at hn; simp at hn)
      have hk : k < L.length := by omega
      have q1 := h.row k hk
      have hp : (0 : Int) < ((k + 1 : Nat) : Int) := by omega
      have hi1 : ((k + 1 : Nat) : Int) - 1 = (k : Int) := by omega
      have hkl : (k : Int) < (L.length : Int) := by omega
      by_cases hx : L[k] = 0
      · rw [hx] at q1
        have hz' : Hid (∀ j (hj : j < L.length), k ≤ j → L[j] = 0) := fun j hj hkj => by
          rcases Nat.eq_or_lt_of_le hkj with e | e
          · subst e; exact hx
          · exact hz.out j hj e
        clear hsl
        go_wp2_with fail
        go_round
        case rel => exact ⟨k, by omega, by go_num, hz'⟩
        case measure => simp [intOf]
      · have HX : Hid (L[k] ≠ 0) := hx
        have hx2 : (((L[k] : Nat) : Int) == 0) = false := by rw [beq_eq_false_iff_ne]; omega
        go_wp2_with (first | simp only [hsl])
        go_ret
        exact ⟨k + 1, rfl, rfl, hn, hz.out, fun j hj e => by
          have ej : k = j := by omega
          subst ej
          exact HX.out⟩
/-- A whole number that lies in memory, without parts that are 0 at the end. -/
def BigAt (W : World) (v : Value) (N : Nat) : Prop := ∃ ao b o cap L, v = .slice ao L.length cap ∧ RB W ao b o cap L ∧ bv L = N ∧ Trm L
theorem BigAt.below {W W1 : World} {v : Value} {N : Nat} (h : BigAt W v N) (hb : Below W.heap.size W W1) : BigAt W1 v N := by
  obtain ⟨ao, b, o, cap, L, h1, h2, h3, h4⟩ := h
  exact ⟨ao, b, o, cap, L, h1, h2.below hb, h3, h4⟩
theorem trim_big (ao : Option Addr) (b o cap : Nat) (L : List Nat) (w : World) (h : RB w ao b o cap L) :
    Calls Try.prog 29 #[.slice ao L.length cap] w fun e w' => ∃ v, e = .returned v ∧ w' = w ∧ BigAt w v (bv L) := by
  refine (trim_any ao b o cap L w h).mono ?_
  rintro e w' ⟨n, rfl, rfl, hn, hz, hx⟩
  have hlen : (L.take n).length = n := by rw [List.length_take]; omega
  refine ⟨_, rfl, rfl, ao, b, o, cap, L.take n, by rw [hlen], ⟨?_, ?_, h.mx, ?_, ?_⟩, ?_, ?_⟩
  · intro hne; exact h.addr (fun e => hne (by rw [e]; simp))
  · rw [hlen]; have := h.lc; omega
  · intro x hx; exact h.small x (List.mem_of_mem_take hx)
  · intro i hi
    rw [hlen] at hi
    rw [h.row i (by omega)]
    simp
  · exact bv_take_zero L n hn hz
  · intro hne
    have hn0 : n ≠ 0 := fun e => hne (by rw [e]; simp)
    rw [List.getLast_eq_getElem]
    simp only [hlen, List.getElem_take]
    exact hx (n - 1) (by omega) (by omega)
/-- The same, with an address. -/
def BigIn (W : World) (v : Value) (N : Nat) : Prop := ∃ b o cap L, v = .slice (some ⟨b, o, none⟩) L.length cap ∧ RB W (some ⟨b, o, none⟩) b o cap L ∧ bv L = N ∧ Trm L
theorem BigIn.big {W : World} {v : Value} {N : Nat} (h : BigIn W v N) : BigAt W v N := by
  obtain ⟨b, o, cap, L, h1, h2, h3, h4⟩ := h
  exact ⟨_, b, o, cap, L, h1, h2, h3, h4⟩
theorem trim_in (b o cap : Nat) (L : List Nat) (w : World) (h : RB w (some ⟨b, o, none⟩) b o cap L) :
    Calls Try.prog 29 #[.slice (some ⟨b, o, none⟩) L.length cap] w fun e w' => ∃ v, e = .returned v ∧ w' = w ∧ BigIn w v (bv L) := by
  refine (trim_any (some ⟨b, o, none⟩) b o cap L w h).mono ?_
  rintro e w' ⟨n, rfl, rfl, hn, hz, hx⟩
  have hlen : (L.take n).length = n := by rw [List.length_take]; omega
  refine ⟨_, rfl, rfl, b, o, cap, L.take n, by rw [hlen], ⟨?_, ?_, h.mx, ?_, ?_⟩, ?_, ?_⟩
  · intro hne; exact h.addr (fun e => hne (by rw [e]; simp))
  · rw [hlen]; have := h.lc; omega
  · intro x hx; exact h.small x (List.mem_of_mem_take hx)
  · intro i hi
    rw [hlen] at hi
    rw [h.row i (by omega)]
    simp
  · exact bv_take_zero L n hn hz
  · intro hne
    have hn0 : n ≠ 0 := fun e => hne (by rw [e]; simp)
    rw [List.getLast_eq_getElem]
    simp only [hlen, List.getElem_take]
    exact hx (n - 1) (by omega) (by omega)
theorem infoP : (Try.prog.info? 44).map (fun i => (i.zero, i.size, i.bytes)) = some (some (.int .u32 0), 1, 4) := by kernel_rfl
theorem GB.rowP {B : Nat} {W0 v : _} {L : List Nat} {w : World} (h : GB B 44 pV W0 v L w) (hs : B32 L) : ∃ g cap, v = .slice (some ⟨g, 0, none⟩) L.length cap ∧ B ≤ g ∧ RB w (some ⟨g, 0, none⟩) g 0 cap L := by
  obtain ⟨g, cap, cur, rfl, hB, hcur, h1, h2, h3, h4⟩ := own_of h.own h.nz
  refine ⟨g, cap, rfl, hB, ⟨fun _ => rfl, h1, h2, hs, ?_⟩⟩
  intro i hi
  have := h.own.cellAt i (by simpa using hi)
  rw [Nat.zero_add, this]
  simp [hi, pV]
set_option maxHeartbeats 2000000 in
theorem plus_rows (ao : Option Addr) (b o cap : Nat) (A : List Nat) (ao2 : Option Addr) (b2 o2 cap2 : Nat) (C : List Nat) (w : World) (h : RB w ao b o cap A) (k : RB w ao2 b2 o2 cap2 C) (hl : A.length ≤ 1000000000) (hl2 : C.length ≤ 1000000000) :
    Calls Try.prog 20 #[.slice ao A.length cap, .slice ao2 C.length cap2] w fun e w' => ∃ v, e = .returned v ∧ Below w.heap.size w w' ∧ BigAt w' v (bv A + bv C) := by
  obtain ⟨i0, hi, hz0, hz1, hz2⟩ := info_parts infoP
  go_enter Try.func20, Try.ntmps20
  go_wp2_with fail
  go_loopw [5, 6, 7] (fun v cr a wr => ∃ (i c : Nat) (O : List Nat), cr = .int .u64 (c : Int) ∧ a = .int .i64 (i : Int) ∧ c ≤ 1 ∧ (i ≤ A.length ∨ i ≤ C.length ∨ c = 0) ∧ (i ≤ A.length + 1 ∨ i ≤ C.length + 1) ∧ GB w.heap.size 44 pV w v O wr ∧ Hid (O.length = i ∧ B32 O ∧ bv O + 4294967296 ^ i * c = lowP A i + lowP C i)) (fun _ _ a _ => (A.length + C.length + 2 - (intOf a).toNat))
  case atStart => exact ⟨0, 0, [], rfl, rfl, by omega, by omega, by omega, GB.new w, ⟨rfl, (fun x hx => by cases hx), by simp [bv, lowP]⟩⟩
  case round =>
    obtain ⟨i, c, O, rfl, rfl, hc, hic, hi2, hG, hH⟩ := hrel
    have hx := pt_lt h.small i
    have hy := pt_lt k.small i
    have HS : Hid _ := plus_step hH.out.1 hH.out.2.2
    have hcase : (i < A.length ∧ i < C.length) ∨ (i < A.length ∧ ¬ i < C.length) ∨ (¬ i < A.length ∧ i < C.length) ∨ (¬ i < A.length ∧ ¬ i < C.length ∧ c = 1) ∨ (¬ i < A.length ∧ ¬ i < C.length ∧ c = 0) := by omega
    have hB := hG.below
    have hol : O.length = i := hH.out.1
    have HO : Hid (B32 O) := hH.out.2.1
    rcases hcase with ⟨u1, u2⟩ | ⟨u1, u2⟩ | ⟨u1, u2⟩ | ⟨u1, u2, rfl⟩ | ⟨u1, u2, rfl⟩
    · obtain rfl := h.addr (by intro e; rw [e] at u1; simp at u1)
      obtain rfl := k.addr (by intro e; rw [e] at u2; simp at u2)
      have q1 : wr.cell? ⟨b, o + i, none⟩ = some (.int .u32 ((pt A i : Nat) : Int)) := by rw [pt_in u1]; exact (h.row.below hB (fun e => h.row.lt e)) i u1
      have q2 : wr.cell? ⟨b2, o2 + i, none⟩ = some (.int .u32 ((pt C i : Nat) : Int)) := by rw [pt_in u2]; exact (k.row.below hB (fun e => k.row.lt e)) i u2
      have v1 : (i : Int) < (A.length : Int) := by omega
      have v2 : (i : Int) < (C.length : Int) := by omega
      generalize pt A i = x at *
      generalize pt C i = y at *
      have s1 : (c : Int) + (x : Int) = ((c + x : Nat) : Int) := by omega
      have s2 : ((c + x : Nat) : Int) + (y : Int) = ((c + x + y : Nat) : Int) := by omega
      have s3 : IntKind.u32.wrap ((c + x + y : Nat) : Int) = (((c + x + y) % 4294967296 : Nat) : Int) := by rw [IntKind.wrap_u32']; omega
      have s4 : ((c + x + y : Nat) : Int) / 4294967296 = (((c + x + y) / 4294967296 : Nat) : Int) := by omega
      have hsm : c + x + y < 8589934593 := by omega
      have HQ : Hid ((c + x + y) % 4294967296 < 4294967296 ∧ (c + x + y) / 4294967296 ≤ 1) := by unfold Hid; omega
      generalize (c + x + y) % 4294967296 = r at *
      generalize (c + x + y) / 4294967296 = q at *
      generalize c + x + y = s at *
      generalize c + x = s0 at *
      go_wp2_with (first | (at_builtin; refine wpList_append_own _ rfl _ _ 27 rfl w.heap.size 44 i0 (.int .u32 0) 1 4 Try.underlying27 hi hz0 hz1 hz2 rfl (by decide) _ _ _ rfl (hG.own.alloc _) ⟨_, 0, none⟩ 1 1 [_] rfl rfl (cell_one_new _ _ _) (by intro u hu; simp at hu; subst hu; rfl) (by unfold maxLen; omega) (by omega) (by have := hG.size; simp; omega) ?_; intro v' w7 hown hgrow hnil; have hG7 := hG.push (x := r) _ rfl hown hgrow hnil; clear hown hgrow hnil))
      exact ⟨⟨i + 1, q, O ++ [r], rfl, by go_num, HQ.out.2, by omega, by omega, hG7, ⟨by rw [List.length_append, hol]; rfl, b32_snoc HO.out HQ.out.1, HS.out⟩⟩, by simp [intOf]; omega⟩
    · obtain rfl := h.addr (by intro e; rw [e] at u1; simp at u1)
      rw [pt_out u2, Nat.add_zero] at HS
      have q1 : wr.cell? ⟨b, o + i, none⟩ = some (.int .u32 ((pt A i : Nat) : Int)) := by rw [pt_in u1]; exact (h.row.below hB (fun e => h.row.lt e)) i u1
      have v1 : (i : Int) < (A.length : Int) := by omega
      have v2 : ¬ (i : Int) < (C.length : Int) := by omega
      generalize pt A i = x at *
      have s1 : (c : Int) + (x : Int) = ((c + x : Nat) : Int) := by omega
      have s3 : IntKind.u32.wrap ((c + x : Nat) : Int) = (((c + x) % 4294967296 : Nat) : Int) := by rw [IntKind.wrap_u32']; omega
      have s4 : ((c + x : Nat) : Int) / 4294967296 = (((c + x) / 4294967296 : Nat) : Int) := by omega
      have hsm : c + x < 8589934593 := by omega
      have HQ : Hid ((c + x) % 4294967296 < 4294967296 ∧ (c + x) / 4294967296 ≤ 1) := by unfold Hid; omega
      generalize (c + x) % 4294967296 = r at *
      generalize (c + x) / 4294967296 = q at *
      generalize c + x = s at *
      go_wp2_with (first | (at_builtin; refine wpList_append_own _ rfl _ _ 27 rfl w.heap.size 44 i0 (.int .u32 0) 1 4 Try.underlying27 hi hz0 hz1 hz2 rfl (by decide) _ _ _ rfl (hG.own.alloc _) ⟨_, 0, none⟩ 1 1 [_] rfl rfl (cell_one_new _ _ _) (by intro u hu; simp at hu; subst hu; rfl) (by unfold maxLen; omega) (by omega) (by have := hG.size; simp; omega) ?_; intro v' w7 hown hgrow hnil; have hG7 := hG.push (x := r) _ rfl hown hgrow hnil; clear hown hgrow hnil))
      exact ⟨⟨i + 1, q, O ++ [r], rfl, by go_num, HQ.out.2, by omega, by omega, hG7, ⟨by rw [List.length_append, hol]; rfl, b32_snoc HO.out HQ.out.1, HS.out⟩⟩, by simp [intOf]; omega⟩
    · obtain rfl := k.addr (by intro e; rw [e] at u2; simp at u2)
      rw [pt_out u1, Nat.add_zero] at HS
      have q1 : wr.cell? ⟨b2, o2 + i, none⟩ = some (.int .u32 ((pt C i : Nat) : Int)) := by rw [pt_in u2]; exact (k.row.below hB (fun e => k.row.lt e)) i u2
      have v1 : ¬ (i : Int) < (A.length : Int) := by omega
      have v2 : (i : Int) < (C.length : Int) := by omega
      generalize pt C i = x at *
      have s1 : (c : Int) + (x : Int) = ((c + x : Nat) : Int) := by omega
      have s3 : IntKind.u32.wrap ((c + x : Nat) : Int) = (((c + x) % 4294967296 : Nat) : Int) := by rw [IntKind.wrap_u32']; omega
      have s4 : ((c + x : Nat) : Int) / 4294967296 = (((c + x) / 4294967296 : Nat) : Int) := by omega
      have hsm : c + x < 8589934593 := by omega
      have HQ : Hid ((c + x) % 4294967296 < 4294967296 ∧ (c + x) / 4294967296 ≤ 1) := by unfold Hid; omega
      generalize (c + x) % 4294967296 = r at *
      generalize (c + x) / 4294967296 = q at *
      generalize c + x = s at *
      go_wp2_with (first | (at_builtin; refine wpList_append_own _ rfl _ _ 27 rfl w.heap.size 44 i0 (.int .u32 0) 1 4 Try.underlying27 hi hz0 hz1 hz2 rfl (by decide) _ _ _ rfl (hG.own.alloc _) ⟨_, 0, none⟩ 1 1 [_] rfl rfl (cell_one_new _ _ _) (by intro u hu; simp at hu; subst hu; rfl) (by unfold maxLen; omega) (by omega) (by have := hG.size; simp; omega) ?_; intro v' w7 hown hgrow hnil; have hG7 := hG.push (x := r) _ rfl hown hgrow hnil; clear hown hgrow hnil))
      exact ⟨⟨i + 1, q, O ++ [r], rfl, by go_num, HQ.out.2, by omega, by omega, hG7, ⟨by rw [List.length_append, hol]; rfl, b32_snoc HO.out HQ.out.1, HS.out⟩⟩, by simp [intOf]; omega⟩
    · rw [pt_out u1, pt_out u2, show (1 + 0 + 0) % 4294967296 = 1 from by decide, show (1 + 0 + 0) / 4294967296 = 0 from by decide] at HS
      have v1 : ¬ (i : Int) < (A.length : Int) := by omega
      have v2 : ¬ (i : Int) < (C.length : Int) := by omega
      go_wp2_with (first | (at_builtin; refine wpList_append_own _ rfl _ _ 27 rfl w.heap.size 44 i0 (.int .u32 0) 1 4 Try.underlying27 hi hz0 hz1 hz2 rfl (by decide) _ _ _ rfl (hG.own.alloc _) ⟨_, 0, none⟩ 1 1 [_] rfl rfl (cell_one_new _ _ _) (by intro u hu; simp at hu; subst hu; rfl) (by unfold maxLen; omega) (by omega) (by have := hG.size; simp; omega) ?_; intro v' w7 hown hgrow hnil; have hG7 := hG.push (x := 1) _ rfl hown hgrow hnil; clear hown hgrow hnil))
      exact ⟨⟨i + 1, 0, O ++ [1], rfl, by go_num, by omega, by omega, by omega, hG7, ⟨by rw [List.length_append, hol]; rfl, b32_snoc HO.out (by decide), HS.out⟩⟩, by simp [intOf]; omega⟩
    · have v1 : ¬ (i : Int) < (A.length : Int) := by omega
      have v2 : ¬ (i : Int) < (C.length : Int) := by omega
      have hsum : bv O = bv A + bv C := by
        have e := hH.out.2.2
        rw [Nat.mul_zero, Nat.add_zero, lowP_all A i (by omega), lowP_all C i (by omega)] at e
        exact e
      obtain ⟨g, cap3, rfl, hgB, hRB⟩ := hG.rowP HO.out
      have hT := trim_big _ g 0 cap3 O wr hRB
      rw [hol] at hT
      go_wp2_with (go_at_call 29; with_reducible refine hT.mono ?_; rintro e w' ⟨v', rfl, rfl, hbig⟩)
      go_ret
      rw [hsum] at hbig
      exact ⟨_, rfl, hB, hbig⟩
end Go.Proofs.Ytdlaloakochfeaa
