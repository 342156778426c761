/- The calls whose answers the document fixes. Own work of the verifier. -/
import Derived.Test.YtpllckgpolhafaaGreatDoorS13
namespace Go.Proofs.YtpllckgpolhafaaGreatDoor
open Go.RowKit

theorem cel_8 : celF 1 2 1 = 8 := by decide +kernel
/-- A counter's two rows, where the second one holds 5. -/
def five (g0 g1 : Nat) : List Rw := [⟨g0, [0, 0], 0, 0, [0, 0]⟩, ⟨g1, [5, 0], 0, 5, [0, 0]⟩]
theorem five_sum (g0 g1 : Nat) : sumR (five g0 g1) 2 = 5 := by
  show rnd (rnd (0 + val 0 0) + val 0 5) = 5
  unfold rnd val; omega
theorem five_buf {s c g0 g1 : Nat} {h : Nat → Nat} {G : Nat → List Nat} {w w' : World} (H : SlabAt 130 s c h G (fun _ => [0, 0]) 2 w) (hG : G 0 = [g0, g1]) (hr : RowW w' g1 [5, 0]) (hm : Mid g1 (g1 + 1) w w') : Buf 130 s c 0 (h 0) (five g0 g1) w' := by
  have hB := H.buf 0 (by decide) [0, 0]
  rw [hG] at hB
  have hin : ∀ x, x ∉ ([g0, g1] : List Nat) → ¬ (g1 ≤ x ∧ x < g1 + 1) := fun x hx hc => hx (by simp; omega)
  have ce : ∀ (a : Addr) (u : Value), w.cell? a = some u → a.block ∉ ([g0, g1] : List Nat) → w'.cell? a = some u := fun a u ha hn => (World.cell?_of_block (hm.block a.block (lt_of_cell ha) (hin _ hn))).trans ha
  have e1 : (rwOf [g0, g1] [0, 0] [0, 0]).map (·.g) = [g0, g1] := rwOf_g _ _ _
  have s1 : s ∉ ([g0, g1] : List Nat) := by rw [← e1]; exact hB.s_ne
  have c1 : c ∉ ([g0, g1] : List Nat) := by rw [← e1]; exact hB.c_ne
  have h1 : h 0 ∉ ([g0, g1] : List Nat) := by rw [← e1]; exact hB.h_ne
  have n1 : ([g0, g1] : List Nat).Nodup := by rw [← e1]; exact hB.nd
  obtain ⟨cap, hc⟩ := hB.held
  refine ⟨ce _ _ hB.slab s1, ⟨cap, ce _ _ hc c1⟩, fun i hi => ?_, n1, s1, c1, h1, fun r hr' => ?_⟩
  · have hi2 : i < 2 := hi
    rcases (show i = 0 ∨ i = 1 by omega) with rfl | rfl
    · exact ce _ _ (hB.rows 0 (by rw [rwOf_len]; simp)) h1
    · exact ce _ _ (hB.rows 1 (by rw [rwOf_len]; simp)) h1
  · have hr2 : r = ⟨g0, [0, 0], 0, 0, [0, 0]⟩ ∨ r = ⟨g1, [5, 0], 0, 5, [0, 0]⟩ := by simpa [five] using hr'
    rcases hr2 with rfl | rfl
    · have hne : g0 ≠ g1 := by simp at n1; exact n1
      exact (hB.left ⟨g0, [0, 0], 0, 0, [0, 0]⟩ (by simp [rwOf])).mid hm (by show ¬ (g1 ≤ g0 ∧ g0 < g1 + 1); omega)
    · exact hr
theorem five_drains (c g0 g1 : Nat) : ∀ r ∈ five g0 g1, Drains 212 (.pointer (some ⟨c, 0, none⟩)) r.xs r.hi r.lo r.ys ∧ Wf r.hi r.lo := fun r hr => by
  have hr2 : r = ⟨g0, [0, 0], 0, 0, [0, 0]⟩ ∨ r = ⟨g1, [5, 0], 0, 5, [0, 0]⟩ := by simpa [five] using hr
  rcases hr2 with rfl | rfl
  · exact ⟨drains_counter _, wf_zero⟩
  · exact ⟨fun W g h => cdrain_any _ g 2 5 0 [] W h, by show Wf 0 5; constructor <;> decide⟩
theorem sn_form {w : World} {v : Value} {L : List Cn} (h : SN w v L) : ∃ ao n cap, v = .slice ao n cap := by
  rcases h with ⟨rfl, _⟩ | ⟨b, o, cap, rfl, _⟩
  · exact ⟨_, _, _, rfl⟩
  · exact ⟨_, _, _, rfl⟩
theorem slab_hid {T : TypeId} {s c : Nat} {h : Nat → Nat} {G : Nat → List Nat} {X : Nat → List Int} {n : Nat} {w w' : World} (H : Hid (SlabAt T s c h G X n w)) (hb : Hid (Below w.heap.size w w')) : Hid (SlabAt T s c h G X n w') := SlabAt.below H hb
theorem below_mid {g : Nat} {w a b : World} (h : Below w.heap.size w a) (hm : Mid g (g + 1) a b) (hg : w.heap.size ≤ g) : Below w.heap.size w b :=
  ⟨hm.os.trans h.os, hm.tape.trans h.tape, hm.output.trans h.output, Nat.le_trans h.size hm.size, fun k hk => by
    rw [hm.block k (Nat.lt_of_lt_of_le hk h.size) (by omega)]; exact h.block k hk⟩
theorem below_off {gs : List Nat} {w a b : World} (h : Below w.heap.size w a) (ho : Off gs a b) (hg : ∀ g ∈ gs, w.heap.size ≤ g) : Below w.heap.size w b :=
  ⟨ho.os.trans h.os, ho.tape.trans h.tape, ho.output.trans h.output, Nat.le_trans h.size ho.size, fun k hk => by
    rw [ho.block k (Nat.lt_of_lt_of_le hk h.size) (fun m => by have := hg k m; omega)]; exact h.block k hk⟩
theorem pair_of {l : List Nat} (h : l.length = 2) : ∃ a b, l = [a, b] := by
  match l, h with
  | [a, b], _ => exact ⟨a, b, rfl⟩
end Go.Proofs.YtpllckgpolhafaaGreatDoor
