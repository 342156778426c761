/- WHAT readFloat ANSWERS. Own work of the verifier. -/
import Derived.Test.YtmejmohambhaaaaGreatDoorOU1
namespace Go.Proofs.YtmejmohambhaaaaGreatDoor
open Go.RowKit

theorem take_bytes (l : List UInt8) (j : Nat) : (ByteArray.mk l.toArray).extract 0 j = ⟨(l.take j).toArray⟩ := by
  apply ByteArray.ext
  rw [ByteArray.data_extract]
  simp
/-- What readFloat answers. -/
def TellsR (l : List UInt8) (e : Ending) : Prop := ∃ (M : Nat) (x : Int) (ng tr hx : Bool) (i : Nat) (ok : Bool), e = .returned (.tuple #[.int .u64 (M : Int), .int .i64 x, .bool ng, .bool tr, .bool hx, .int .i64 (i : Int), .bool ok]) ∧ M < 18446744073709551616 ∧ (hx = false → M < 10000000000000000000) ∧ -400000 ≤ x ∧ x ≤ 400000 ∧ i ≤ l.length
/-- The two ways of digits: tens, and sixteens. -/
def Way (hx : Bool) (B mx ec : Nat) : Prop := hx = false ∧ B = 10 ∧ mx = 19 ∧ ec = 101 ∨ hx = true ∧ B = 16 ∧ mx = 16 ∧ ec = 112
/-- How great the digits so far may be. -/
def Most (B K mx M : Nat) : Prop := M < B ^ K ∧ K ≤ mx
theorem Most.zero (B mx : Nat) : Most B 0 mx 0 := ⟨by simp, Nat.zero_le _⟩
theorem Most.top {hx : Bool} {B mx ec K M : Nat} (h : Most B K mx M) (w : Way hx B mx ec) : M < 18446744073709551616 ∧ (hx = false → M < 10000000000000000000) := by
  obtain ⟨h1, h2⟩ := h
  rcases w with ⟨rfl, rfl, rfl, rfl⟩ | ⟨rfl, rfl, rfl, rfl⟩
  · have : 10 ^ K ≤ 10 ^ 19 := Nat.pow_le_pow_right (by decide) h2
    exact ⟨by omega, fun _ => by omega⟩
  · have : 16 ^ K ≤ 16 ^ 16 := Nat.pow_le_pow_right (by decide) h2
    exact ⟨by omega, fun h => by cases h⟩
theorem Most.step {B mx K M d : Nat} (h : Most B K mx M) (_hB : 1 ≤ B) (hd : d < B) (hK : K < mx) : Most B (K + 1) mx (M * B + d) := by
  obtain ⟨h1, h2⟩ := h
  refine ⟨?_, hK⟩
  rw [Nat.pow_succ]
  calc M * B + d < M * B + B := by omega
    _ = (M + 1) * B := by rw [Nat.add_mul, Nat.one_mul]
    _ ≤ B ^ K * B := Nat.mul_le_mul_right _ h1
theorem Most.low10 {K M : Nat} (h : Most 10 K 19 M) (hK : K < 19) : M < 1000000000000000000 := by
  have : 10 ^ K ≤ 10 ^ 18 := Nat.pow_le_pow_right (by decide) (by omega)
  have := h.1
  omega
theorem Most.low16 {K M : Nat} (h : Most 16 K 16 M) (hK : K < 16) : M < 1152921504606846976 := by
  have : 16 ^ K ≤ 16 ^ 15 := Nat.pow_le_pow_right (by decide) (by omega)
  have := h.1
  omega
end Go.Proofs.YtmejmohambhaaaaGreatDoor
