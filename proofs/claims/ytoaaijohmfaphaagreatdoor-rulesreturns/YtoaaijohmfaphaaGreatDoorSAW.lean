/- value, the document's. Own work of the verifier. -/
import Derived.Test.YtoaaijohmfaphaaGreatDoorSAV
import Derived.Laws.ResultCell
namespace Go.Proofs.YtoaaijohmfaphaaGreatDoor.La
open Go.RowKit

def valR : List UInt8 → Nat → Except (Int × Nat) (List UInt8 × Nat)
  | [], p => .error (5, p)
  | b :: r, p => if b.toNat = 34 then .ok ([], p + 1) else if b.toNat = 10 then .error (5, p) else if b.toNat = 92 then
      match r with
      | [] => .error (5, p)
      | c :: r' => if c.toNat = 92 ∨ c.toNat = 34 then (valR r' (p + 2)).map fun q => (c :: q.1, q.2) else if c.toNat = 110 then (valR r' (p + 2)).map fun q => (10 :: q.1, q.2) else .error (5, p)
    else (valR r (p + 1)).map fun q => (b :: q.1, q.2)
theorem val_end (l : List UInt8) (i : Nat) (h : ¬ i < l.length) : valR (l.drop i) i = .error (5, i) := by
  rw [List.drop_eq_nil_of_le (by omega), valR]
theorem val_low (l : List UInt8) (i : Nat) (h : i < l.length) (h0 : l[i].toNat ≠ 34) (h1 : l[i].toNat ≠ 10) (h2 : l[i].toNat ≠ 92) : valR (l.drop i) i = (valR (l.drop (i + 1)) (i + 1)).map fun q => (l[i] :: q.1, q.2) := by
  rw [List.drop_eq_getElem_cons h, valR.eq_def]
  simp only
  rw [if_neg h0, if_neg h1, if_neg h2]
theorem val_quote (l : List UInt8) (i : Nat) (h : i < l.length) (h0 : l[i].toNat = 34) : valR (l.drop i) i = .ok ([], i + 1) := by
  rw [List.drop_eq_getElem_cons h, valR.eq_def]
  simp only
  rw [if_pos h0]
theorem val_ten (l : List UInt8) (i : Nat) (h : i < l.length) (h1 : l[i].toNat = 10) : valR (l.drop i) i = .error (5, i) := by
  rw [List.drop_eq_getElem_cons h, valR.eq_def]
  simp only
  rw [if_neg (by omega), if_pos h1]
theorem val_last (l : List UInt8) (i : Nat) (h : i < l.length) (h1 : l[i].toNat = 92) (h2 : ¬ i + 1 < l.length) : valR (l.drop i) i = .error (5, i) := by
  rw [List.drop_eq_getElem_cons h, valR.eq_def]
  simp only
  rw [if_neg (by omega), if_neg (by omega), if_pos h1, List.drop_eq_nil_of_le (by omega)]
theorem val_two (l : List UInt8) (i : Nat) (h : i + 1 < l.length) (h1 : l[i].toNat = 92) : valR (l.drop i) i = if l[i + 1].toNat = 92 ∨ l[i + 1].toNat = 34 then (valR (l.drop (i + 2)) (i + 2)).map fun q => (l[i + 1] :: q.1, q.2) else if l[i + 1].toNat = 110 then (valR (l.drop (i + 2)) (i + 2)).map fun q => (10 :: q.1, q.2) else .error (5, i) := by
  rw [List.drop_eq_getElem_cons (by omega : i < l.length), valR.eq_def]
  simp only
  rw [if_neg (by omega), if_neg (by omega), if_pos h1, List.drop_eq_getElem_cons h]
theorem two_set {w : World} {g : Nat} {u v x y : Value} (z0 : w.cell? ⟨g, 0, none⟩ = some u) (z1 : w.cell? ⟨g, 1, none⟩ = some v) :
    ((w.setCell ⟨g, 0, none⟩ x).setCell ⟨g, 1, none⟩ y).cell? ⟨g, 0, none⟩ = some x ∧ ((w.setCell ⟨g, 0, none⟩ x).setCell ⟨g, 1, none⟩ y).cell? ⟨g, 1, none⟩ = some y := by
  constructor
  · rw [World.cell?_setCell_other _ ⟨g, 1, none⟩ ⟨g, 0, none⟩ _ (by intro h; cases h), World.cell?_setCell_same w _ _ z0]
  · have k : (w.setCell ⟨g, 0, none⟩ x).cell? ⟨g, 1, none⟩ = some v := by
      rw [World.cell?_setCell_other _ ⟨g, 0, none⟩ ⟨g, 1, none⟩ _ (by intro h; cases h)]
      exact z1
    exact World.cell?_setCell_same _ _ _ k
end Go.Proofs.YtoaaijohmfaphaaGreatDoor.La
/- one, the document's. Own work of the verifier. -/
namespace Go.Proofs.YtoaaijohmfaphaaGreatDoor.La
open Go.RowKit

def nmAt (l : List UInt8) (p : Nat) : List UInt8 := (l.drop p).take (rowN false (l.drop p))
def oneR (l : List UInt8) (p : Nat) (L : List Lb) : Except (Int × Nat) (Lb × Nat) :=
  if L.length = 16 then .error (3, p)
  else if lnameB (nmAt l p) = false then .error (9, p)
  else if L.length ≠ 0 ∧ bhE (L.getD (L.length - 1) ([], [])).1 (nmAt l p) ≠ 0 then .error (bhE (L.getD (L.length - 1) ([], [])).1 (nmAt l p), p)
  else if (l.getD (p + rowN false (l.drop p)) 0).toNat ≠ 61 then .error (5, p + rowN false (l.drop p))
  else if (l.getD (p + rowN false (l.drop p) + 1) 0).toNat ≠ 34 then .error (5, p + rowN false (l.drop p) + 1)
  else match valR (l.drop (p + rowN false (l.drop p) + 2)) (p + rowN false (l.drop p) + 2) with
    | .error e => .error e
    | .ok q => if txE q.1 ≠ 0 then .error (txE q.1, p + rowN false (l.drop p) + 2) else .ok ((nmAt l p, q.1), q.2)
theorem load_label (g : Nat) (x y : ByteArray) (w : World) (c0 : w.cell? ⟨g, 0, none⟩ = some (.string x)) (c1 : w.cell? ⟨g, 1, none⟩ = some (.string y)) : (loadVar 64 ⟨g, 0, none⟩).run Tryz.prog w = .ok (.agg #[.string x, .string y]) w := by
  simp [loadVar, go_sem, c0, c1]
end Go.Proofs.YtoaaijohmfaphaaGreatDoor.La
/- THE READER: rest, take. Own work of the verifier. -/
namespace Go.Proofs.YtoaaijohmfaphaaGreatDoor.La
open Go.RowKit

structure Ex (g : Nat) (w W : World) : Prop where
  os : W.os = w.os
  tape : W.tape = w.tape
  output : W.output = w.output
  size : w.heap.size ≤ W.heap.size
  block : ∀ k, k < w.heap.size → k ≠ g → W.heap[k]? = w.heap[k]?
set_option maxRecDepth 100000 in
theorem Ex.refl (g : Nat) (w : World) : Ex g w w := ⟨rfl, rfl, rfl, Nat.le_refl _, fun _ _ _ => rfl⟩
set_option maxRecDepth 100000 in
theorem Ex.of {g : Nat} {w W : World} (h : Below w.heap.size w W) : Ex g w W := ⟨h.os, h.tape, h.output, h.size, fun k hk _ => h.block k hk⟩
set_option maxRecDepth 100000 in
theorem Ex.trans {g : Nat} {a b c : World} (h : Ex g a b) (k : Ex g b c) : Ex g a c :=
  ⟨k.os.trans h.os, k.tape.trans h.tape, k.output.trans h.output, Nat.le_trans h.size k.size, fun i hi hg => (k.block i (Nat.lt_of_lt_of_le hi h.size) hg).trans (h.block i hi hg)⟩
set_option maxRecDepth 100000 in
theorem Ex.set {g : Nat} {w W : World} (h : Ex g w W) (o : Nat) (u : Value) : Ex g w (W.setCell ⟨g, o, none⟩ u) :=
  ⟨h.os, h.tape, h.output, by have := h.size; simpa [World.setCell] using this, fun k hk hg => by rw [Below.heap_setCell _ _ _ _ hg]; exact h.block k hk hg⟩
set_option maxRecDepth 100000 in
theorem Ex.below {g : Nat} {w W : World} (h : Ex g w W) {B : Nat} (hB : B ≤ g) (hs : B ≤ w.heap.size) : Below B w W :=
  ⟨h.os, h.tape, h.output, h.size, fun k hk => h.block k (by omega) (by omega)⟩
set_option maxRecDepth 100000 in
theorem Ex.row {g : Nat} {w W : World} (h : Ex g w W) {b o : Nat} {A : List Lb} (hb : b ≠ g) (hr : RowL w b o A) : RowL W b o A := fun i hi => by
  obtain ⟨h1, h2⟩ := hr i hi
  have hk : W.heap[b]? = w.heap[b]? := h.block b (lt_of_cell h1) hb
  exact ⟨(World.cell?_of_block (w := w) (w' := W) (a := ⟨b, o + i * 2, none⟩) hk).trans h1, (World.cell?_of_block (w := w) (w' := W) (a := ⟨b, o + i * 2 + 1, none⟩) hk).trans h2⟩
def RdAt (W : World) (g : Nat) (l : List UInt8) (p : Nat) : Prop := W.heap[g]? = some (.cells #[.string ⟨l.toArray⟩, .int .i64 (p : Int)] 184)
set_option maxRecDepth 100000 in
theorem RdAt.lt {W : World} {g p : Nat} {l : List UInt8} (h : RdAt W g l p) : g < W.heap.size := (Array.getElem?_eq_some_iff.1 h).1
set_option maxRecDepth 100000 in
theorem RdAt.below {W W1 : World} {g p : Nat} {l : List UInt8} (h : RdAt W g l p) (hb : Below W.heap.size W W1) : RdAt W1 g l p := (hb.block g h.lt).trans h
set_option maxRecDepth 100000 in
theorem RdAt.drewN {W : World} {g p : Nat} {l : List UInt8} (h : RdAt W g l p) (n : Nat) : RdAt (W.drewN n) g l p := h.below (below_drewN W n)
set_option maxRecDepth 100000 in
theorem RdAt.cells {W : World} {g p : Nat} {l : List UInt8} (h : RdAt W g l p) : W.cell? ⟨g, 0, none⟩ = some (.string ⟨l.toArray⟩) ∧ W.cell? ⟨g, 1, none⟩ = some (.int .i64 (p : Int)) ∧ W.frozen? ⟨g, 1, none⟩ = false := by
  have h' : W.heap[g]? = some (.cells #[.string ⟨l.toArray⟩, .int .i64 (p : Int)] 184) := h
  refine ⟨?_, ?_, ?_⟩ <;> simp [World.cell?, World.frozen?, h']
set_option maxRecDepth 100000 in
theorem RdAt.set {W : World} {g p : Nat} {l : List UInt8} (h : RdAt W g l p) (r : Nat) : RdAt (W.setCell ⟨g, 1, none⟩ (.int .i64 (r : Int))) g l r := by
  have h' : W.heap[g]? = some (.cells #[.string ⟨l.toArray⟩, .int .i64 (p : Int)] 184) := h
  unfold RdAt
  simp [World.setCell, Array.getElem?_modify, h']
set_option maxRecDepth 100000 in
set_option maxHeartbeats 1000000 in
theorem rest_any (g p : Nat) (l : List UInt8) (hp : p ≤ l.length) (w : World) (hr : RdAt w g l p) :
    Calls Tryz.prog 169 #[.pointer (some ⟨g, 0, none⟩)] w fun r w' => r = .returned (.string ⟨(l.drop p).toArray⟩) ∧ ∃ n, w' = w.drewN n := by
  obtain ⟨c0, c1, c2⟩ := hr.cells
  have hdr := drop_bytes l p
  have hp' : (p : Int) ≤ (l.length : Int) := by omega
  clear hr
  go_enter Tryz.func169, Tryz.ntmps169
  go_wp2_with fail
  go_quiet (fail)
  go_wp2_with fail
  go_ret
  exact ⟨rfl, _, rfl⟩
set_option maxRecDepth 100000 in
set_option maxHeartbeats 1000000 in
theorem take_any (g p : Nat) (l s : List UInt8) (hp : p ≤ l.length) (hl : l.length ≤ 4611686018427387904) (w : World) (hr : RdAt w g l p) :
    Calls Tryz.prog 170 #[.pointer (some ⟨g, 0, none⟩), .string ⟨s.toArray⟩] w fun r w' => r = .returned (.bool (preB (l.drop p) s)) ∧ Ex g w w' ∧ RdAt w' g l (if preB (l.drop p) s then p + s.length else p) := by
  have HR : HidC _ _ _ _ _ := rest_any g p l hp w hr
  have HP : Hid (∀ W, Calls Tryz.prog 94 #[.string ⟨(l.drop p).toArray⟩, .string ⟨s.toArray⟩] W fun r w' => r = .returned (.bool (preB (l.drop p) s)) ∧ w' = W) := fun W => pre_any (l.drop p) s W
  have HRd : Hid (RdAt w g l p) := hr
  have hls : preB (l.drop p) s = true → p + s.length ≤ l.length := fun h => by
    unfold preB at h
    rw [Bool.and_eq_true, decide_eq_true_eq, List.length_drop] at h
    omega
  clear hr
  cases hb : preB (l.drop p) s
  · rw [hb] at HP
    rw [if_neg (by decide)]
    clear hb hls
    as_aux_lemma =>
      go_enter Tryz.func170, Tryz.ntmps170
      go_wp2_with fail
      refine (HR.out).mono ?_
      rintro e w1 ⟨rfl, n, rfl⟩
      clear HR
      go_wp2_with (go_at_call 94; refine (HP.out _).mono ?_; rintro e1 w1 ⟨rfl, rfl⟩)
      go_ret
      exact ⟨rfl, Ex.of (below_drewN w n), RdAt.drewN HRd.out n⟩
  · rw [hb] at HP
    rw [if_pos rfl]
    have hls' := hls hb
    obtain ⟨r, hrr⟩ : ∃ r, r = p + s.length := ⟨_, rfl⟩
    have hr1 : (p : Int) + (s.length : Int) = (r : Int) := by omega
    rw [← hrr]
    have hr2 : (r : Int) ≤ 4611686018427387904 := by omega
    clear hb hls hrr
    as_aux_lemma =>
      go_enter Tryz.func170, Tryz.ntmps170
      go_wp2_with fail
      refine (HR.out).mono ?_
      rintro e w1 ⟨rfl, n, rfl⟩
      obtain ⟨c0, c1, c2⟩ := (RdAt.drewN HRd.out n).cells
      clear HR
      go_wp2_with (go_at_call 94; refine (HP.out _).mono ?_; rintro e1 w1 ⟨rfl, rfl⟩)
      go_ret
      exact ⟨rfl, (Ex.of (below_drewN w n)).set _ _, (RdAt.drewN HRd.out n).set r⟩
end Go.Proofs.YtoaaijohmfaphaaGreatDoor.La
/- THE READER: value. Own work of the verifier. -/
namespace Go.Proofs.YtoaaijohmfaphaaGreatDoor.La
open Go.RowKit

set_option maxRecDepth 100000 in
theorem ue_cases (q : Bool) (l : List UInt8) : (∀ p, unE q l p = .error p) ∨ (∀ p, unE q l p = .ok ([], p)) ∨ ∃ (c : UInt8) (r : List UInt8) (d : Nat), r.length + d = l.length ∧ 1 ≤ d ∧ ∀ p, unE q l p = (unE q r (p + d)).map fun t => (c :: t.1, t.2) := by
  cases l with
  | nil => exact Or.inr (Or.inl fun p => by rw [unE])
  | cons b r =>
    by_cases h1 : b.toNat = 10
    · left; intro p; rw [unE.eq_def]; simp only; rw [if_pos h1]
    by_cases h2 : b.toNat = 92
    · cases r with
      | nil => left; intro p; rw [unE.eq_def]; simp only; rw [if_neg h1, if_pos h2]
      | cons c r' =>
        by_cases h3 : c.toNat = 110
        · right; right
          exact ⟨10, r', 2, rfl, by omega, fun p => by rw [unE.eq_def]; simp only; rw [if_neg h1, if_pos h2, if_pos h3]⟩
        by_cases h4 : c.toNat = 92 ∨ q = true ∧ c.toNat = 34
        · right; right
          exact ⟨c, r', 2, rfl, by omega, fun p => by rw [unE.eq_def]; simp only; rw [if_neg h1, if_pos h2, if_neg h3, if_pos h4]⟩
        · left; intro p; rw [unE.eq_def]; simp only; rw [if_neg h1, if_pos h2, if_neg h3, if_neg h4]
    by_cases h3 : q = true ∧ b.toNat = 34
    · right; left; intro p; rw [unE.eq_def]; simp only; rw [if_neg h1, if_neg h2, if_pos h3]
    · right; right
      exact ⟨b, r, 1, rfl, by omega, fun p => by rw [unE.eq_def]; simp only; rw [if_neg h1, if_neg h2, if_neg h3]⟩
set_option maxRecDepth 100000 in
theorem ue_all (q : Bool) : ∀ (n : Nat) (l : List UInt8), l.length = n → ∀ p, (∃ k, p ≤ k ∧ k ≤ p + l.length ∧ ∀ d, unE q l (p + d) = .error (k + d)) ∨ (∃ t k, p ≤ k ∧ k ≤ p + l.length ∧ t.length ≤ l.length ∧ ∀ d, unE q l (p + d) = .ok (t, k + d)) := by
  intro n
  induction n using Nat.strongRecOn with
  | ind n ih =>
    intro l hl p
    rcases ue_cases q l with h | h | ⟨c, r, d, h1, h2, h3⟩
    · exact Or.inl ⟨p, Nat.le_refl _, by omega, fun d => h _⟩
    · exact Or.inr ⟨[], p, Nat.le_refl _, by omega, by simp, fun d => h _⟩
    · rcases ih r.length (by omega) r rfl (p + d) with ⟨k, a1, a2, a3⟩ | ⟨t, k, a1, a2, a3, a4⟩
      · exact Or.inl ⟨k, by omega, by omega, fun e => by rw [h3, show p + e + d = p + d + e from by omega, a3 e]; rfl⟩
      · exact Or.inr ⟨c :: t, k, by omega, by omega, by rw [List.length_cons]; omega, fun e => by rw [h3, show p + e + d = p + d + e from by omega, a4 e]; rfl⟩
set_option maxRecDepth 100000 in
theorem pre_one (l : List UInt8) (k : Nat) (c : UInt8) : preB (l.drop k) [c] = decide (k < l.length ∧ (l.getD k 0).toNat = c.toNat) := by
  unfold preB
  by_cases h : k < l.length
  · rw [List.drop_eq_getElem_cons h, get_at l k h]
    simp only [List.length_cons, List.length_nil, List.take_succ_cons, List.take_zero]
    rw [Bool.eq_iff_iff]
    simp only [Bool.and_eq_true, decide_eq_true_eq, beq_iff_eq, List.cons.injEq, and_true]
    constructor
    · rintro ⟨_, e⟩; exact ⟨h, by rw [e]⟩
    · rintro ⟨_, e⟩; exact ⟨by omega, UInt8.toNat_inj.1 e⟩
  · have hn : ¬ (k < l.length ∧ (l.getD k 0).toNat = c.toNat) := by omega
    have hd : l.drop k = [] := List.drop_eq_nil_of_le (by omega)
    rw [hd, decide_eq_false hn]
    rfl
set_option maxRecDepth 100000 in
theorem val_un (l : List UInt8) : ∀ n i, l.length - i = n → i ≤ l.length → valR (l.drop i) i = match unE true (l.drop i) i with
    | .error k => .error (5, k)
    | .ok (t, k) => if preB (l.drop k) [34] then .ok (t, k + 1) else .error (5, k) := by
  intro n
  induction n using Nat.strongRecOn with
  | ind n ih =>
    intro i hn hi
    by_cases h : i < l.length
    · by_cases h34 : l[i].toNat = 34
      · rw [val_quote l i h h34, ue_quote true l i h ⟨rfl, h34⟩]
        simp only
        rw [pre_one, decide_eq_true ⟨h, by rw [get_at l i h]; exact h34⟩]
        rfl
      by_cases h10 : l[i].toNat = 10
      · rw [val_ten l i h h10, ue_ten true l i h h10]
      by_cases h92 : l[i].toNat = 92
      · rw [ue_back true l i h h92]
        by_cases k : i + 1 < l.length
        · have e1 := ih (l.length - (i + 2)) (by omega) (i + 2) rfl (by omega)
          rw [val_two l i k h92, List.drop_eq_getElem_cons k]
          simp only [escP]
          by_cases c110 : l[i + 1].toNat = 110
          · rw [if_neg (by omega), if_pos c110, if_pos c110]
            simp only
            rw [e1]
            cases unE true (l.drop (i + 2)) (i + 2) with
            | error e => rfl
            | ok t =>
              obtain ⟨t, k⟩ := t
              by_cases hb : preB (l.drop k) [34] = true <;> simp [Except.map, hb]
          · by_cases c2 : l[i + 1].toNat = 92 ∨ l[i + 1].toNat = 34
            · have c2' : l[i + 1].toNat = 92 ∨ True ∧ l[i + 1].toNat = 34 := by simpa using c2
              rw [if_pos c2, if_neg c110, if_pos c2']
              simp only
              rw [e1]
              cases unE true (l.drop (i + 2)) (i + 2) with
              | error e => rfl
              | ok t =>
                obtain ⟨t, k⟩ := t
                by_cases hb : preB (l.drop k) [34] = true <;> simp [Except.map, hb]
            · have c2' : ¬ (l[i + 1].toNat = 92 ∨ True ∧ l[i + 1].toNat = 34) := by simpa using c2
              rw [if_neg c2, if_neg c110, if_neg c110, if_neg c2']
        · rw [val_last l i h h92 k, List.drop_eq_nil_of_le (by omega)]
          rfl
      · have e1 := ih (l.length - (i + 1)) (by omega) (i + 1) rfl (by omega)
        rw [val_low l i h h34 h10 h92, ue_low true l i h h10 h92 (by simp [h34]), e1]
        cases unE true (l.drop (i + 1)) (i + 1) with
        | error e => rfl
        | ok t =>
          obtain ⟨t, k⟩ := t
          by_cases hb : preB (l.drop k) [34] = true <;> simp [Except.map, hb]
    · rw [val_end l i h, ue_end true l i h]
      simp only
      rw [pre_one, decide_eq_false (by omega)]
      rfl
def TellsW (l : List UInt8) (p : Nat) (e : Ending) (j : Nat) : Prop :=
  (∃ k, valR (l.drop p) p = .error (5, k) ∧ j = k ∧ e = .returned (.tuple #[.string ⟨#[]⟩, .int .i64 5])) ∨
  (∃ t k, valR (l.drop p) p = .ok (t, k) ∧ (txE t ≠ 0 ∧ j = p ∧ e = .returned (.tuple #[.string ⟨#[]⟩, .int .i64 (txE t)]) ∨ txE t = 0 ∧ j = k ∧ e = .returned (.tuple #[.string ⟨t.toArray⟩, .int .i64 0])))
set_option maxRecDepth 100000 in
set_option maxHeartbeats 4000000 in
theorem cvalue_any (g p : Nat) (l : List UInt8) (hp : p ≤ l.length) (hl : l.length ≤ 140737488355328) (w : World) (hr : RdAt w g l p) :
    Calls Tryz.prog 196 #[.pointer (some ⟨g, 0, none⟩)] w fun r w' => ∃ j, TellsW l p r j ∧ Ex g w w' ∧ RdAt w' g l j := by
  obtain ⟨c0, c1, c2⟩ := hr.cells
  have HR : HidC _ _ _ _ _ := rest_any g p l hp w hr
  have hdl : (l.drop p).length = l.length - p := List.length_drop
  have HU : Hid (∀ W, Calls Tryz.prog 203 #[.string ⟨(l.drop p).toArray⟩, .string ⟨#[92, 34]⟩] W fun r w' => TellsE true (l.drop p) r ∧ Below W.heap.size W w') := fun W => unesc_any true (l.drop p) (by omega) W
  have HRd : Hid (RdAt w g l p) := hr
  have HA := ue_all true _ (l.drop p) rfl 0
  have HV := val_un l _ p rfl hp
  have HT : Hid (∀ (j : Nat), j ≤ l.length → ∀ W, RdAt W g l j → Calls Tryz.prog 170 #[.pointer (some ⟨g, 0, none⟩), .string ⟨#[34]⟩] W fun r w' => r = .returned (.bool (preB (l.drop j) [34])) ∧ Ex g W w' ∧ RdAt w' g l (if preB (l.drop j) [34] then j + 1 else j)) := fun j hj W h => take_any g j l [34] hj (by omega) W h
  have HC : Hid (∀ t : List UInt8, t.length ≤ l.length → ∀ W, Calls Tryz.prog 83 #[.string ⟨t.toArray⟩] W fun r w' => r = .returned (.int .i64 (txE t)) ∧ Below W.heap.size W w') := fun t ht W => ctext_any t (by omega) W
  clear hr
  rcases HA with ⟨k, a1, a2, a3⟩ | ⟨t, k, a1, a2, a3, a4⟩
  · have hu : unE true (l.drop p) 0 = .error k := a3 0
    have hv : valR (l.drop p) p = .error (5, k + p) := by
      rw [HV, show unE true (l.drop p) p = .error (k + p) from by have := a3 p; rw [Nat.zero_add] at this; exact this]
    obtain ⟨j, hj⟩ : ∃ j, j = k + p := ⟨_, rfl⟩
    have hj1 : (p : Int) + (k : Int) = (j : Int) := by omega
    have hj2 : j ≤ l.length := by omega
    rw [← hj] at hv
    have HVV : Hid _ := hv
    have HUU : Hid _ := hu
    have hj3 : (j : Int) ≤ 140737488355328 := by omega
    clear HV hv hu a1 a2 a3 hj hdl HT HC
    as_aux_lemma =>
      go_enter Tryz.func196, Tryz.ntmps196
      go_wp2_with fail
      refine (HR.out).mono ?_
      rintro e w1 ⟨rfl, n, rfl⟩
      clear HR c0 c1 c2
      go_wp2_with fail
      refine (HU.out _).mono ?_
      rintro e w2 ⟨hT, hb⟩
      have hb0 : Below w.heap.size w w2 := (below_drewN w n).trans (hb.mono (below_drewN w n).size)
      have hr2 : RdAt w2 g l p := RdAt.below HRd.out hb0
      obtain ⟨c0, c1, c2⟩ := hr2.cells
      have HR2 : Hid _ := hr2
      clear HU hb hr2
      rcases hT with ⟨p', hp', rfl⟩ | ⟨t, p', hp', rfl⟩
      · have hpk : p' = k := by rw [HUU.out] at hp'; cases hp'; rfl
        subst hpk
        clear hp' HUU
        go_wp2_with fail
        go_ret2
        exact ⟨j, Or.inl ⟨j, HVV.out, rfl, rfl⟩, (Ex.of hb0).set _ _, RdAt.set HR2.out j⟩
      · rw [HUU.out] at hp'; cases hp'
  · have hu : unE true (l.drop p) 0 = .ok (t, k) := a4 0
    have hv0 : unE true (l.drop p) p = .ok (t, k + p) := by have := a4 p; rw [Nat.zero_add] at this; exact this
    rw [hv0] at HV
    simp only at HV
    obtain ⟨j, hj⟩ : ∃ j, j = k + p := ⟨_, rfl⟩
    have hj1 : (p : Int) + (k : Int) = (j : Int) := by omega
    have hj2 : j ≤ l.length := by omega
    rw [← hj] at HV
    have HUU : Hid _ := hu
    have hj3 : (j : Int) ≤ 140737488355328 := by omega
    have HT1 : Hid _ := HT.out j hj2
    have HC1 : Hid _ := HC.out t (by omega)
    have HVV : Hid _ := HV
    clear hv0 HV hu a1 a2 a3 a4 hj hdl HT HC
    generalize hbq : preB (l.drop j) [34] = bq at *
    cases bq
    · have HV1 : Hid (valR (l.drop p) p = .error (5, j)) := by have := HVV.out; rw [if_neg (by decide)] at this; exact this
      clear HVV HC1 hbq
      as_aux_lemma =>
        go_enter Tryz.func196, Tryz.ntmps196
        go_wp2_with fail
        refine (HR.out).mono ?_
        rintro e w1 ⟨rfl, n, rfl⟩
        clear HR c0 c1 c2
        go_wp2_with fail
        refine (HU.out _).mono ?_
        rintro e w2 ⟨hT, hb⟩
        have hb0 : Below w.heap.size w w2 := (below_drewN w n).trans (hb.mono (below_drewN w n).size)
        have hr2 : RdAt w2 g l p := RdAt.below HRd.out hb0
        obtain ⟨c0, c1, c2⟩ := hr2.cells
        have HT2 : HidC _ _ _ _ _ := HT1.out _ (hr2.set j)
        have HX : Hid (Ex g w (w2.setCell ⟨g, 1, none⟩ (.int .i64 (j : Int)))) := (Ex.of hb0).set _ _
        clear HU hb hr2 HT1 hb0
        rcases hT with ⟨p', hp', rfl⟩ | ⟨t', p', hp', rfl⟩
        · rw [HUU.out] at hp'; cases hp'
        · have hpk : t' = t ∧ p' = k := by rw [HUU.out] at hp'; cases hp'; exact ⟨rfl, rfl⟩
          obtain ⟨rfl, rfl⟩ := hpk
          clear hp' HUU
          go_wp2_with fail
          refine (HT2.out).mono ?_
          rintro e w3 ⟨rfl, hx, hr⟩
          have HX3 : Hid _ := HX.out.trans hx
          have HR3 : Hid _ := hr
          clear HT2 HX hx hr c0 c1 c2
          go_wp2_with fail
          go_ret2
          exact ⟨j, Or.inl ⟨j, HV1.out, rfl, rfl⟩, HX3.out, HR3.out⟩
    · have HV1 : Hid (valR (l.drop p) p = .ok (t, j + 1)) := by have := HVV.out; rw [if_pos rfl] at this; exact this
      clear HVV hbq
      generalize htz : txE t = tz at *
      have HTZ : Hid _ := htz
      clear htz
      by_cases e1 : tz = 0
      · subst e1
        as_aux_lemma =>
          go_enter Tryz.func196, Tryz.ntmps196
          go_wp2_with fail
          refine (HR.out).mono ?_
          rintro e w1 ⟨rfl, n, rfl⟩
          clear HR c0 c1 c2
          go_wp2_with fail
          refine (HU.out _).mono ?_
          rintro e w2 ⟨hT, hb⟩
          have hb0 : Below w.heap.size w w2 := (below_drewN w n).trans (hb.mono (below_drewN w n).size)
          have hr2 : RdAt w2 g l p := RdAt.below HRd.out hb0
          obtain ⟨c0, c1, c2⟩ := hr2.cells
          have HT2 : HidC _ _ _ _ _ := HT1.out _ (hr2.set j)
          have HX : Hid (Ex g w (w2.setCell ⟨g, 1, none⟩ (.int .i64 (j : Int)))) := (Ex.of hb0).set _ _
          clear HU hb hr2 HT1 hb0
          rcases hT with ⟨p', hp', rfl⟩ | ⟨t', p', hp', rfl⟩
          · rw [HUU.out] at hp'; cases hp'
          · have hpk : t' = t ∧ p' = k := by rw [HUU.out] at hp'; cases hp'; exact ⟨rfl, rfl⟩
            obtain ⟨rfl, rfl⟩ := hpk
            clear hp' HUU
            go_wp2_with fail
            refine (HT2.out).mono ?_
            rintro e w3 ⟨rfl, hx, hr⟩
            have HX3 : Hid (Ex g w w3) := HX.out.trans hx
            have HR3 : Hid (RdAt w3 g l (j + 1)) := hr
            clear HT2 HX hx hr c0 c1 c2
            go_wp2_with fail
            refine (HC1.out _).mono ?_
            rintro e w4 ⟨rfl, hb4⟩
            have HX4 : Hid (Ex g w w4) := HX3.out.trans (Ex.of hb4)
            have HR4 : Hid (RdAt w4 g l (j + 1)) := RdAt.below HR3.out hb4
            clear HX3 HR3 HC1 hb4
            go_wp2_with fail
            go_ret2
            exact ⟨j + 1, Or.inr ⟨_, _, HV1.out, Or.inr ⟨HTZ.out, rfl, rfl⟩⟩, HX4.out, HR4.out⟩
      · have e1' : (tz != 0) = true := by simpa using e1
        have HN : Hid (tz ≠ 0) := e1
        clear e1
        as_aux_lemma =>
          go_enter Tryz.func196, Tryz.ntmps196
          go_wp2_with fail
          refine (HR.out).mono ?_
          rintro e w1 ⟨rfl, n, rfl⟩
          clear HR c0 c1 c2
          go_wp2_with fail
          refine (HU.out _).mono ?_
          rintro e w2 ⟨hT, hb⟩
          have hb0 : Below w.heap.size w w2 := (below_drewN w n).trans (hb.mono (below_drewN w n).size)
          have hr2 : RdAt w2 g l p := RdAt.below HRd.out hb0
          obtain ⟨c0, c1, c2⟩ := hr2.cells
          have HT2 : HidC _ _ _ _ _ := HT1.out _ (hr2.set j)
          have HX : Hid (Ex g w (w2.setCell ⟨g, 1, none⟩ (.int .i64 (j : Int)))) := (Ex.of hb0).set _ _
          clear HU hb hr2 HT1 hb0
          rcases hT with ⟨p', hp', rfl⟩ | ⟨t', p', hp', rfl⟩
          · rw [HUU.out] at hp'; cases hp'
          · have hpk : t' = t ∧ p' = k := by rw [HUU.out] at hp'; cases hp'; exact ⟨rfl, rfl⟩
            obtain ⟨rfl, rfl⟩ := hpk
            clear hp' HUU
            go_wp2_with fail
            refine (HT2.out).mono ?_
            rintro e w3 ⟨rfl, hx, hr⟩
            have HX3 : Hid (Ex g w w3) := HX.out.trans hx
            have HR3 : Hid (RdAt w3 g l (j + 1)) := hr
            clear HT2 HX hx hr c0 c1 c2
            go_wp2_with fail
            refine (HC1.out _).mono ?_
            rintro e w4 ⟨rfl, hb4⟩
            have HX4 : Hid (Ex g w w4) := HX3.out.trans (Ex.of hb4)
            have HR4 : Hid (RdAt w4 g l (j + 1)) := RdAt.below HR3.out hb4
            obtain ⟨c0, c1, c2⟩ := RdAt.cells HR4.out
            clear HX3 HR3 HC1 hb4
            go_wp2_with fail
            go_ret2
            exact ⟨p, Or.inr ⟨_, _, HV1.out, Or.inl ⟨fun h => HN.out (HTZ.out.symm.trans h), rfl, congrArg (fun z : Int => Ending.returned (Value.tuple #[.string ⟨#[]⟩, .int .i64 z])) HTZ.out.symm⟩⟩, HX4.out.set _ _, RdAt.set HR4.out p⟩
end Go.Proofs.YtoaaijohmfaphaaGreatDoor.La
