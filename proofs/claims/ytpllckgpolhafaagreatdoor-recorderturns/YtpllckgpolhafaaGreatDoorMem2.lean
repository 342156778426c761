/- MEMORY: all but some blocks stay. Own work of the verifier. -/
import Derived.Test.YtpllckgpolhafaaGreatDoorUF
namespace Go.Proofs.YtpllckgpolhafaaGreatDoor
open Go.RowKit

/-- All but some blocks stay. -/
structure Chg (S : Nat → Prop) (W W' : World) : Prop where
  os : W'.os = W.os
  tape : W'.tape = W.tape
  output : W'.output = W.output
  size : W.heap.size ≤ W'.heap.size
  block : ∀ k, k < W.heap.size → ¬ S k → W'.heap[k]? = W.heap[k]?
theorem Chg.refl (S : Nat → Prop) (W : World) : Chg S W W := ⟨rfl, rfl, rfl, Nat.le_refl _, fun _ _ _ => rfl⟩
theorem Chg.trans {S S' : Nat → Prop} {a b c : World} (h : Chg S a b) (k : Chg S' b c) (hs : ∀ x, S' x → S x ∨ a.heap.size ≤ x) : Chg S a c :=
  ⟨k.os.trans h.os, k.tape.trans h.tape, k.output.trans h.output, Nat.le_trans h.size k.size, fun j hj hn => (k.block j (Nat.lt_of_lt_of_le hj h.size) (fun q => by rcases hs j q with r | r; exact hn r; omega)).trans (h.block j hj hn)⟩
theorem Chg.mono {S S' : Nat → Prop} {a b : World} (h : Chg S a b) (hs : ∀ x, S x → S' x) : Chg S' a b := ⟨h.os, h.tape, h.output, h.size, fun j hj hn => h.block j hj (fun q => hn (hs j q))⟩
theorem Chg.of_below {S : Nat → Prop} {a b : World} (h : Below a.heap.size a b) : Chg S a b := ⟨h.os, h.tape, h.output, h.size, fun k hk _ => h.block k hk⟩
theorem Chg.of_mid {S : Nat → Prop} {a b : World} {g : Nat} (h : Mid g (g + 1) a b) (hs : S g) : Chg S a b := ⟨h.os, h.tape, h.output, h.size, fun k hk hn => h.block k hk (fun q => hn (by rw [show k = g by omega]; exact hs))⟩
theorem Chg.at_ {S : Nat → Prop} {W W' : World} {p : Nat} {o : Obj} (k : Chg S W W') (h : W.heap[p]? = some o) (hS : ¬ S p) : W'.heap[p]? = some o := (k.block p (Array.getElem?_eq_some_iff.1 h).1 hS).trans h
theorem Chg.cell {S : Nat → Prop} {W W' : World} {a : Addr} {u : Value} (k : Chg S W W') (h : W.cell? a = some u) (hS : ¬ S a.block) : W'.cell? a = some u := (World.cell?_of_block (k.block a.block (lt_of_cell h) hS)).trans h
theorem Chg.below {S : Nat → Prop} {B : Nat} {a b : World} (k : Chg S a b) (hB : B ≤ a.heap.size) (hS : ∀ x, S x → B ≤ x) : Below B a b := ⟨k.os, k.tape, k.output, k.size, fun j hj => k.block j (by omega) (fun q => by have := hS j q; omega)⟩
theorem Chg.drew {S : Nat → Prop} {a b : World} (h : Chg S a b) : Chg S a b.drew := ⟨h.os, h.tape, h.output, h.size, h.block⟩
theorem Chg.undrew {S : Nat → Prop} {a b : World} (h : Chg S a.drew b) : Chg S a b := ⟨h.os, h.tape, h.output, h.size, h.block⟩
theorem Chg.set (W : World) (a : Addr) (u : Value) : Chg (fun x => x = a.block) W (W.setCell a u) := ⟨rfl, rfl, rfl, by simp, fun k _ hn => heap_setCell_other W a k u hn⟩
theorem Pq.lt {w : World} {p n : Nat} {neg : Bool} (h : Pq w p neg n) : p < w.heap.size := by
  cases neg with
  | false => obtain ⟨o, q⟩ := h; exact (Array.getElem?_eq_some_iff.1 q).1
  | true => obtain ⟨o, q⟩ := h; exact (Array.getElem?_eq_some_iff.1 q).1
theorem Pq.form {w : World} {p n : Nat} {neg : Bool} (h : Pq w p neg n) : ∃ s l0 l1, Ph w p s l0 l1 := by
  cases neg with
  | false => obtain ⟨o, q⟩ := h; exact ⟨_, _, _, q⟩
  | true => obtain ⟨o, q⟩ := h; exact ⟨_, _, _, q⟩
theorem Pq.below {w w' : World} {p n : Nat} {neg : Bool} (h : Pq w p neg n) (hb : Below w.heap.size w w') : Pq w' p neg n := by
  have hl := h.lt
  cases neg with
  | false => obtain ⟨o, q⟩ := h; exact ⟨o, (hb.block p hl).trans q⟩
  | true => obtain ⟨o, q⟩ := h; exact ⟨o, (hb.block p hl).trans q⟩
theorem sh_ne_pq {w : World} {k p a n : Nat} {neg : Bool} {r0 r1 : Int} (hS : Sh w k p a r0 r1) (hP : Pq w p neg n) : p ≠ k := by
  obtain ⟨_, _, _, h⟩ := hP.form
  exact sh_ne hS h
theorem rc_ne_ph {w : World} {rc k p n : Nat} {st : Int} {cl neg : Bool} (hR : Rc w rc k st cl) (hP : Pq w p neg n) : rc ≠ p := fun e => by
  obtain ⟨_, _, _, h⟩ := hP.form
  subst e
  unfold Rc at hR; unfold Ph at h
  rw [hR] at h
  injection h with h
  injection h with h
  injection h with h
  simp at h
end Go.Proofs.YtpllckgpolhafaaGreatDoor
