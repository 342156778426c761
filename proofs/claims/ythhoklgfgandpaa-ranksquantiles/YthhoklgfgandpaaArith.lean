/- THE PLAIN MATHEMATICS of numbers of 128 bits: no Go in sight. Own work of the verifier. -/
import Derived.WalkKit
namespace Go.Proofs.Ythhoklgfgandpaa

def val (h l : Int) : Int := h * 18446744073709551616 + l
def hiOf (n : Int) : Int := n / 18446744073709551616
def loOf (n : Int) : Int := n % 18446744073709551616
/-- A number brought round. -/
def rnd (n : Int) : Int := (n + 170141183460469231731687303715884105728) % 340282366920938463463374607431768211456 - 170141183460469231731687303715884105728

/-- The two words of a number. -/
structure Wf (h l : Int) : Prop where
  h0 : -9223372036854775808 ≤ h
  h1 : h ≤ 9223372036854775807
  l0 : 0 ≤ l
  l1 : l < 18446744073709551616
/-- A number of 128 bits. -/
structure InR (n : Int) : Prop where
  lo : -170141183460469231731687303715884105728 ≤ n
  hi : n < 170141183460469231731687303715884105728

theorem val_hl (n : Int) : val (hiOf n) (loOf n) = n := by unfold val hiOf loOf; omega
theorem hiOf_val {h l : Int} (w : Wf h l) : hiOf (val h l) = h := by obtain ⟨_, _, _, _⟩ := w; unfold hiOf val; omega
theorem loOf_val {h l : Int} (w : Wf h l) : loOf (val h l) = l := by obtain ⟨_, _, _, _⟩ := w; unfold loOf val; omega
theorem inR_val {h l : Int} (w : Wf h l) : InR (val h l) := by obtain ⟨_, _, _, _⟩ := w; constructor <;> (unfold val; omega)
theorem inR_rnd (n : Int) : InR (rnd n) := by constructor <;> (unfold rnd; omega)
theorem wf_of {n : Int} (h : InR n) : Wf (hiOf n) (loOf n) := by obtain ⟨_, _⟩ := h; constructor <;> (simp only [hiOf, loOf]; omega)
theorem wf_rnd (n : Int) : Wf (hiOf (rnd n)) (loOf (rnd n)) := wf_of (inR_rnd n)
theorem rnd_of {n : Int} (h : InR n) : rnd n = n := by obtain ⟨_, _⟩ := h; unfold rnd; omega
theorem rnd_add_rnd (a b : Int) : rnd (rnd a + b) = rnd (a + b) := by unfold rnd; omega
theorem rnd_sub_rnd (a b : Int) : rnd (rnd a - b) = rnd (a - b) := by unfold rnd; omega
theorem rnd_sub_rnd' (a b : Int) : rnd (a - rnd b) = rnd (a - b) := by unfold rnd; omega
theorem rnd_add_rnd' (a b : Int) : rnd (a + rnd b) = rnd (a + b) := by unfold rnd; omega
/-- Two numbers are the same if and only if their words are. -/
theorem val_inj {a b c d : Int} (h : Wf a b) (k : Wf c d) : val a b = val c d ↔ a = c ∧ b = d := by
  obtain ⟨_, _, _, _⟩ := h; obtain ⟨_, _, _, _⟩ := k; unfold val; constructor
  · intro e; constructor <;> omega
  · rintro ⟨rfl, rfl⟩; rfl
theorem val_lt {a b c d : Int} (h : Wf a b) (k : Wf c d) : val a b < val c d ↔ a < c ∨ a = c ∧ b < d := by
  obtain ⟨_, _, _, _⟩ := h; obtain ⟨_, _, _, _⟩ := k; unfold val; omega

/-- Which is less? -/
def cmp (a b : Int) : Int := if a < b then -1 else if a = b then 0 else 1
end Go.Proofs.Ythhoklgfgandpaa
