/- THE DOCUMENT's RECORDS, done at once, of every kind. Own work of the verifier. -/
import Derived.Test.YtfnohbalkpponaaGreatDoorZBJ
import Derived.Test.YtfnohbalkpponaaGreatDoorZBC
import Derived.Test.YtfnohbalkpponaaGreatDoorZBA
import Derived.Test.YtfnohbalkpponaaGreatDoorZAY
namespace Go.Proofs.YtfnohbalkpponaaGreatDoor
open Go.RowKit

/-- A summary's row behind a float. -/
def smR : List Int → Nat → List Int
  | [k, s, c, mn, mx], v => smD k (uw s).toNat (uw c).toNat (uw mn).toNat (uw mx).toNat v
  | l, _ => l
theorem smR_row {k : Int} {s c mn mx : Nat} (v : Nat) (hs : s < 18446744073709551616) (hc : c < 18446744073709551616) (h1 : mn < 18446744073709551616) (h2 : mx < 18446744073709551616) : smR (sRow k s c mn mx) v = smD k s c mn mx v := by
  unfold sRow
  have a1 := fw_nat hs
  have a2 := fw_nat hc
  have a3 := fw_nat h1
  have a4 := fw_nat h2
  generalize fw64 s = x1 at *
  generalize fw64 c = x2 at *
  generalize fw64 mn = x3 at *
  generalize fw64 mx = x4 at *
  show smD k _ _ _ _ v = _
  rw [a1, a2, a3, a4]
/-- A row behind a record. -/
noncomputable def layD (kind : Int) (p : Nat) (row : List Int) (n : Int) (f : Nat) : List Int := if kind = 4 then adW row n else if kind = 5 then obW p row n.toNat else smR row f
/-- When a record is laid. -/
theorem why_ok {kind kd n : Int} {f : Nat} {cl : Bool} (hk : kind = 4 ∨ kind = 5 ∨ kind = 6) (h : whyF kind kd n f cl = 0) : cl = false ∧ ((kind = 4 ∧ kd = 1 ∧ 0 ≤ n) ∨ (kind = 5 ∧ kd = 2 ∧ 0 ≤ n) ∨ (kind = 6 ∧ kd = 3 ∧ mayB f = true)) := by
  unfold whyF at h
  cases cl
  · refine ⟨rfl, ?_⟩
    rw [if_neg (by decide)] at h
    by_cases hd : kd = kdOf kind
    · rw [if_pos hd] at h
      rcases hk with rfl | rfl | rfl
      · rw [if_neg (by decide)] at h
        by_cases hn : n < 0
        · rw [if_pos hn] at h; exact absurd h (by decide)
        · exact Or.inl ⟨rfl, hd, by omega⟩
      · rw [if_neg (by decide)] at h
        by_cases hn : n < 0
        · rw [if_pos hn] at h; exact absurd h (by decide)
        · exact Or.inr (Or.inl ⟨rfl, hd, by omega⟩)
      · rw [if_pos rfl] at h
        cases hm : mayB f
        · rw [hm] at h; exact absurd h (by decide)
        · exact Or.inr (Or.inr ⟨rfl, hd, rfl⟩)
    · rw [if_neg hd] at h; exact absurd h (by decide)
  · rw [if_pos rfl] at h; exact absurd h (by decide)
theorem RowOk.is1 {p t : Nat} {row : List Int} (h : RowOk 1 p t row) : row.length = 2 ∧ Ws row := by
  rcases h with ⟨_, h⟩ | ⟨h, _⟩ | ⟨h, _⟩
  · exact h
  · exact absurd h (by decide)
  · exact absurd h (by decide)
theorem RowOk.is2 {p t : Nat} {row : List Int} (h : RowOk 2 p t row) : row.length = Lg (p : Int) + 2 ∧ Ws row := by
  rcases h with ⟨h, _⟩ | ⟨_, h⟩ | ⟨h, _⟩
  · exact absurd h (by decide)
  · exact h
  · exact absurd h (by decide)
theorem RowOk.is3 {p t : Nat} {row : List Int} (h : RowOk 3 p t row) : ∃ k s c mn mx : Nat, k ≤ t ∧ row = sRow (k : Int) s c mn mx ∧ SumOk k s c mn mx := by
  rcases h with ⟨h, _⟩ | ⟨h, _⟩ | ⟨_, h⟩
  · exact absurd h (by decide)
  · exact absurd h (by decide)
  · exact h
theorem wrap_succ {k : Nat} (h : k < 4611686018427387904) : wrap64 ((k : Int) + 1) = ((k + 1 : Nat) : Int) := by unfold wrap64; push_cast; omega
/-- A row that is laid into stays as it may be. -/
theorem RowOk.laid {kind kd n : Int} {f p t : Nat} {cl : Bool} {row : List Int} (h : RowOk kd p t row) (hk : kind = 4 ∨ kind = 5 ∨ kind = 6) (ht : t < 70368744177664) (hf : f < 18446744073709551616) (h0 : whyF kind kd n f cl = 0) : RowOk kd p (t + 1) (layD kind p row n f) := by
  obtain ⟨_, ⟨rfl, rfl, hn⟩ | ⟨rfl, rfl, hn⟩ | ⟨rfl, rfl, hm⟩⟩ := why_ok hk h0
  · obtain ⟨h1, h2⟩ := h.is1
    unfold layD
    rw [if_pos rfl]
    exact Or.inl ⟨rfl, by rw [adW_len]; exact h1, h2.adW n⟩
  · obtain ⟨h1, h2⟩ := h.is2
    unfold layD
    rw [if_neg (by decide), if_pos rfl]
    exact Or.inr (Or.inl ⟨rfl, by rw [obW_len]; exact h1, by unfold obW; exact (h2.inc _).adW _⟩)
  · obtain ⟨k, s, c, mn, mx, hkt, rfl, hS⟩ := h.is3
    unfold layD
    rw [if_neg (by decide), if_neg (by decide), smR_row f hS.hs hS.hc hS.hmn hS.hmx]
    refine Or.inr (Or.inr ⟨rfl, k + 1, _, _, _, _, by omega, ?_, hS.put (by omega) hf hm⟩)
    unfold smD
    rw [wrap_succ (by omega)]
end Go.Proofs.YtfnohbalkpponaaGreatDoor
/- A SLAB WITH ANY CONTENTS: Add, Observe, Sample of all kinds. Own work of the verifier. -/
namespace Go.Proofs.YtfnohbalkpponaaGreatDoor
open Go.RowKit

theorem kadd_any (a : Value) (b i x : Int) (w : World) : Calls Tryz.prog 305 #[a, .pointer none, .int .i64 b, .int .i64 i, .int .i64 x] w fun e w' => e = .returned (.int .i64 7) ∧ w' = w := by
  go_enter Tryz.func305, Tryz.ntmps305
  go_wp2
  go_ret
  exact ⟨rfl, rfl⟩
theorem sadd_kind (T : TypeId) (hT : T = 299 ∨ T = 302) (s c : Nat) (b i x : Int) (w : World) (hs : w.cell? ⟨s, 0, none⟩ = some (.iface T (.pointer (some ⟨c, 0, none⟩)))) :
    Calls Tryz.prog 91 #[.pointer (some ⟨s, 0, none⟩), .pointer none, .int .i64 b, .int .i64 i, .int .i64 x] w fun e w' => e = .returned (.int .i64 7) ∧ w' = w := by
  have HK : Hid (∀ a W, _) := fun a W => kadd_any a b i x W
  rcases hT with rfl | rfl
  all_goals
    go_enter Tryz.func91, Tryz.ntmps91
    go_wp2_with (go_at_call 305; with_reducible refine Calls.mono (HK.out _ _) ?_; rintro e w1 ⟨rfl, rfl⟩)
    go_ret
    exact ⟨rfl, rfl⟩
section
variable {s c n wd : Nat} {h : Nat → Nat} {G : Nat → List Nat} {C : Nat → Nat → List Int} {w : World}
end
end Go.Proofs.YtfnohbalkpponaaGreatDoor
/- THE RECORDER: Observe. Own work of the verifier. -/
namespace Go.Proofs.YtfnohbalkpponaaGreatDoor
open Go.RowKit

end Go.Proofs.YtfnohbalkpponaaGreatDoor
/- THE RECORDER: Sample. Own work of the verifier. -/
namespace Go.Proofs.YtfnohbalkpponaaGreatDoor
open Go.RowKit

end Go.Proofs.YtfnohbalkpponaaGreatDoor
