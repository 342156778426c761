/- THE READER: rest, take. Own work of the verifier. -/
import Derived.Test.YtmphajfhilpgeabCB3
import Derived.Test.YtmphajfhilpgeabLA15
namespace Go.Proofs.Ytmphajfhilpgeab
open Go.RowKit

/-- Nothing that was there has changed but one block. -/
structure Ex (g : Nat) (w W : World) : Prop where
  os : W.os = w.os
  tape : W.tape = w.tape
  output : W.output = w.output
  size : w.heap.size ≤ W.heap.size
  block : ∀ k, k < w.heap.size → k ≠ g → W.heap[k]? = w.heap[k]?
theorem Ex.refl (g : Nat) (w : World) : Ex g w w := ⟨rfl, rfl, rfl, Nat.le_refl _, fun _ _ _ => rfl⟩
theorem Ex.of {g : Nat} {w W : World} (h : Below w.heap.size w W) : Ex g w W := ⟨h.os, h.tape, h.output, h.size, fun k hk _ => h.block k hk⟩
theorem Ex.trans {g : Nat} {a b c : World} (h : Ex g a b) (k : Ex g b c) : Ex g a c :=
  ⟨k.os.trans h.os, k.tape.trans h.tape, k.output.trans h.output, Nat.le_trans h.size k.size, fun i hi hg => (k.block i (Nat.lt_of_lt_of_le hi h.size) hg).trans (h.block i hi hg)⟩
theorem Ex.set {g : Nat} {w W : World} (h : Ex g w W) (o : Nat) (u : Value) : Ex g w (W.setCell ⟨g, o, none⟩ u) :=
  ⟨h.os, h.tape, h.output, by have := h.size; simpa [World.setCell] using this, fun k hk hg => by rw [Below.heap_setCell _ _ _ _ hg]; exact h.block k hk hg⟩
theorem Ex.below {g : Nat} {w W : World} (h : Ex g w W) {B : Nat} (hB : B ≤ g) (hs : B ≤ w.heap.size) : Below B w W :=
  ⟨h.os, h.tape, h.output, h.size, fun k hk => h.block k (by omega) (by omega)⟩
theorem Ex.row {g : Nat} {w W : World} (h : Ex g w W) {b o : Nat} {A : List Lb} (hb : b ≠ g) (hr : RowL w b o A) : RowL W b o A := fun i hi => by
  obtain ⟨h1, h2⟩ := hr i hi
  have hk : W.heap[b]? = w.heap[b]? := h.block b (lt_of_cell h1) hb
  exact ⟨(World.cell?_of_block (w := w) (w' := W) (a := ⟨b, o + i * 2, none⟩) hk).trans h1, (World.cell?_of_block (w := w) (w' := W) (a := ⟨b, o + i * 2 + 1, none⟩) hk).trans h2⟩
/-- A reader in memory: its text, and how far it has come. -/
def RdAt (W : World) (g : Nat) (l : List UInt8) (p : Nat) : Prop := W.heap[g]? = some (.cells #[.string ⟨l.toArray⟩, .int .i64 (p : Int)] 61)
theorem RdAt.lt {W : World} {g p : Nat} {l : List UInt8} (h : RdAt W g l p) : g < W.heap.size := (Array.getElem?_eq_some_iff.1 h).1
theorem RdAt.below {W W1 : World} {g p : Nat} {l : List UInt8} (h : RdAt W g l p) (hb : Below W.heap.size W W1) : RdAt W1 g l p := (hb.block g h.lt).trans h
theorem RdAt.drewN {W : World} {g p : Nat} {l : List UInt8} (h : RdAt W g l p) (n : Nat) : RdAt (W.drewN n) g l p := h.below (below_drewN W n)
theorem RdAt.cells {W : World} {g p : Nat} {l : List UInt8} (h : RdAt W g l p) : W.cell? ⟨g, 0, none⟩ = some (.string ⟨l.toArray⟩) ∧ W.cell? ⟨g, 1, none⟩ = some (.int .i64 (p : Int)) ∧ W.frozen? ⟨g, 1, none⟩ = false := by
  have h' : W.heap[g]? = some (.cells #[.string ⟨l.toArray⟩, .int .i64 (p : Int)] 61) := h
  refine ⟨?_, ?_, ?_⟩ <;> simp [World.cell?, World.frozen?, h']
theorem RdAt.set {W : World} {g p : Nat} {l : List UInt8} (h : RdAt W g l p) (r : Nat) : RdAt (W.setCell ⟨g, 1, none⟩ (.int .i64 (r : Int))) g l r := by
  have h' : W.heap[g]? = some (.cells #[.string ⟨l.toArray⟩, .int .i64 (p : Int)] 61) := h
  unfold RdAt
  simp [World.setCell, Array.getElem?_modify, h']
set_option maxHeartbeats 1000000 in
theorem rest_any (g p : Nat) (l : List UInt8) (hp : p ≤ l.length) (w : World) (hr : RdAt w g l p) :
    Calls Try.prog 52 #[.pointer (some ⟨g, 0, none⟩)] w fun r w' => r = .returned (.string ⟨(l.drop p).toArray⟩) ∧ ∃ n, w' = w.drewN n := by
  obtain ⟨c0, c1, c2⟩ := hr.cells
  have hdr := drop_bytes l p
  have hp' : (p : Int) ≤ (l.length : Int) := by omega
  clear hr
  go_enter Try.func52, Try.ntmps52
  go_wp2_with fail
  go_quiet (fail)
  go_wp2_with fail
  go_ret
  exact ⟨rfl, _, rfl⟩
set_option maxHeartbeats 1000000 in
theorem take_any (g p : Nat) (l s : List UInt8) (hp : p ≤ l.length) (hl : l.length ≤ 4611686018427387904) (w : World) (hr : RdAt w g l p) :
    Calls Try.prog 53 #[.pointer (some ⟨g, 0, none⟩), .string ⟨s.toArray⟩] w fun r w' => r = .returned (.bool (preB (l.drop p) s)) ∧ Ex g w w' ∧ RdAt w' g l (if preB (l.drop p) s then p + s.length else p) := by
  have HR : HidC _ _ _ _ _ := rest_any g p l hp w hr
  have HP : Hid (∀ W, Calls Try.prog 43 #[.string ⟨(l.drop p).toArray⟩, .string ⟨s.toArray⟩] W fun r w' => r = .returned (.bool (preB (l.drop p) s)) ∧ w' = W) := fun W => pre_any (l.drop p) s W
  have HRd : Hid (RdAt w g l p) := hr
  have hls : preB (l.drop p) s = true → p + s.length ≤ l.length := fun h => by
    unfold preB at h
    rw [Bool.and_eq_true, decide_eq_true_eq, List.length_drop] at h
    omega
  clear hr
  cases hb : preB (l.drop p) s
  · rw [hb] at HP
    rw [if_neg (by decide)]
    clear hb hls
    as_aux_lemma =>
      go_enter Try.func53, Try.ntmps53
      go_wp2_with fail
      refine (HR.out).mono ?_
      rintro e w1 ⟨rfl, n, rfl⟩
      clear HR
      go_wp2_with (go_at_call 43; refine (HP.out _).mono ?_; rintro e1 w1 ⟨rfl, rfl⟩)
      go_ret
      exact ⟨rfl, Ex.of (below_drewN w n), RdAt.drewN HRd.out n⟩
  · rw [hb] at HP
    rw [if_pos rfl]
    have hls' := hls hb
    obtain ⟨r, hrr⟩ : ∃ r, r = p + s.length := ⟨_, rfl⟩
    have hr1 : (p : Int) + (s.length : Int) = (r : Int) := by omega
    rw [← hrr]
    have hr2 : (r : Int) ≤ 4611686018427387904 := by omega
    clear hb hls hrr
    as_aux_lemma =>
      go_enter Try.func53, Try.ntmps53
      go_wp2_with fail
      refine (HR.out).mono ?_
      rintro e w1 ⟨rfl, n, rfl⟩
      obtain ⟨c0, c1, c2⟩ := (RdAt.drewN HRd.out n).cells
      clear HR
      go_wp2_with (go_at_call 43; refine (HP.out _).mono ?_; rintro e1 w1 ⟨rfl, rfl⟩)
      go_ret
      exact ⟨rfl, (Ex.of (below_drewN w n)).set _ _, (RdAt.drewN HRd.out n).set r⟩
end Go.Proofs.Ytmphajfhilpgeab
