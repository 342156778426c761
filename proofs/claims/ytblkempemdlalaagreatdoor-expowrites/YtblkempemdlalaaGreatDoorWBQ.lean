/- SNAPSHOTS THAT MAY BE: their lines. Own work of the verifier. -/
import Derived.Test.YtblkempemdlalaaGreatDoorWBP
import Derived.Test.YtblkempemdlalaaGreatDoorWBM
namespace Go.Proofs.YtblkempemdlalaaGreatDoor
open Go.RowKit Me

noncomputable def vlL (P : Nat) (x : Vl) : List (List UInt8) := if x.d.kind = 1 then ctL x else if x.d.kind = 2 then hgL P x else smL x
theorem chk1_z {p : Int} {q : Option Vl} {x : Vl} (h : chk1 p q x = 0) : La.chkD x.d = 0 ∧ holdB p x = true := by
 unfold chk1 at h
 by_cases h1 : La.chkD x.d = 0
 ·rw [if_neg (by simpa using h1)] at h
  cases h2 : holdB p x
  ·rw [if_pos h2] at h
   exact absurd h (by decide)
  ·exact ⟨h1, rfl⟩
 ·rw [if_pos h1] at h
  exact absurd h h1
theorem chkV_z (p : Int) : ∀ (L : List Vl) (q : Option Vl) (i : Nat), (chkV p q L i).1 = 0 → ∀ x ∈ L, La.chkD x.d = 0 ∧ holdB p x = true
 | [], _, _, _, _, hx => by cases hx
 | y :: r, q, i, h, x, hx => by
  rw [chkV] at h
  by_cases hz : chk1 p q y = 0
  ·rw [if_neg (by simpa using hz)] at h
   rcases List.mem_cons.1 hx with e | e
   ·rw [e]; exact chk1_z hz
   ·exact chkV_z p r _ _ h x e
  ·rw [if_pos hz] at h
   exact absurd h hz
theorem chkS_z {s : Sn} (h : (chkS s).1 = 0) : ∀ x ∈ s.vs, La.chkD x.d = 0 ∧ holdB s.p x = true := by
 unfold chkS at h
 split at h
 ·exact absurd h (by decide)
 ·split at h
  ·exact absurd h (by decide)
  ·exact chkV_z _ _ _ _ h
theorem tx_z {l : List UInt8} (h : La.txE l = 0) : l.length ≤ 1024 := by
 unfold La.txE at h
 split at h
 ·exact absurd h (by decide)
 ·omega
theorem plain_z {c : Bool} {l : List UInt8} (h : La.plainB c l = true) : 1 ≤ l.length ∧ l.length ≤ 64 ∧ La.rowN c l = l.length := by
 unfold La.plainB at h
 simp only [Bool.and_eq_true, decide_eq_true_eq] at h
 exact ⟨h.1.1.1, h.1.1.2, h.1.2⟩
theorem chkL_z : ∀ (L : List La.Lb) (q : Option (List UInt8)), La.chkL L q = 0 → ∀ a ∈ L, La.lnameB a.1 = true ∧ La.txE a.2 = 0
 | [], _, _, _, ha => by cases ha
 | y :: r, q, h, a, ha => by
  unfold La.chkL at h
  cases h1 : La.lnameB y.1
  ·rw [if_pos h1] at h; exact absurd h (by decide)
  ·rw [if_neg (by rw [h1]; decide)] at h
   by_cases h2 : La.txE y.2 = 0
   ·rw [if_neg (by simpa using h2)] at h
    have hr : La.chkL r (some y.1) = 0 := by
     cases q with
     | none => exact h
     | some q =>
      simp only at h
      by_cases h3 : La.bhE q y.1 = 0
      ·rw [if_neg (by simpa using h3)] at h; exact h
      ·rw [if_pos h3] at h; exact absurd h h3
    rcases List.mem_cons.1 ha with e | e
    ·rw [e]; exact ⟨h1, h2⟩
    ·exact chkL_z r _ hr a e
   ·rw [if_pos h2] at h; exact absurd h h2
structure DOk (d : La.Ds) : Prop where
 k : d.kind = 1 ∨ d.kind = 2 ∨ d.kind = 3
 n : La.plainB true d.name = true
 h : d.help.length ≤ 1024
 l : d.labels.length ≤ 16
 v : ∀ a ∈ d.labels, La.plainB false a.1 = true ∧ a.2.length ≤ 1024
theorem chkD_z {d : La.Ds} (h : La.chkD d = 0) : DOk d := by
 unfold La.chkD at h
 split at h
 ·exact absurd h (by decide)
 ·rename_i hk
  cases h1 : La.nameB d.name
  ·rw [if_pos h1] at h; exact absurd h (by decide)
  ·rw [if_neg (by rw [h1]; decide)] at h
   by_cases h2 : La.txE d.help = 0
   ·rw [if_neg (by simpa using h2)] at h
    split at h
    ·exact absurd h (by decide)
    ·rename_i hl
     refine ⟨by omega, ?_, tx_z h2, by omega, fun a ha => ?_⟩
     ·unfold La.nameB at h1
      simp only [Bool.and_eq_true] at h1
      exact h1.1.1.1
     ·obtain ⟨k1, k2⟩ := chkL_z _ _ h a ha
      unfold La.lnameB at k1
      simp only [Bool.and_eq_true] at k1
      exact ⟨k1.1.1.1, tx_z k2⟩
   ·rw [if_pos h2] at h; exact absurd h h2
theorem DOk.sho {d : La.Ds} (h : DOk d) : Sho d [] := by
 refine ⟨?_, by have := h.h; omega, by rw [List.append_nil]; have := h.l; omega, fun a ha => ?_⟩
 ·have := (plain_z h.n).2.1; omega
 ·rw [List.append_nil] at ha
  obtain ⟨k1, k2⟩ := h.v a ha
  have := (plain_z k1).2.1
  exact ⟨by omega, by omega⟩
theorem hold_may {p : Int} {x : Vl} (h : holdB p x = true) (hk : x.d.kind = 2) : MayIs p x.cs 0 := by
 unfold holdB at h
 rw [if_neg (by omega), if_pos hk, Bool.and_eq_true] at h
 have h1 := h.1
 unfold cntB at h1
 simp only [Bool.and_eq_true, decide_eq_true_eq] at h1
 rw [← h1.1.1]
 exact mayE_is p x.cs
theorem wv_all {s : Sn} {w : World} (hS : SnW s) (ht : Wi.Tab w) (hg : Rl.Glob2 w) (h : (chkS s).1 = 0) : ∀ x ∈ s.vs, ∀ pb, Wv w pb s.p (vlL s.p.toNat) x := by
 intro x hx pb
 obtain ⟨h1, h2⟩ := chkS_z h x hx
 have hd := chkD_z h1
 obtain ⟨⟨p1, p2⟩, -⟩ := chkS_p h
 obtain ⟨P, hP⟩ := Int.eq_ofNat_of_zero_le (show 0 ≤ s.p by omega)
 refine ⟨hd.k, hd.sho, ?_⟩
 rcases hd.k with k | k | k
 ·exact wrt_counter w pb s.p _ x ht k hd.sho (hS.vs x hx) (by unfold vlL; rw [if_pos k])
 ·have hv : vlL s.p.toNat x = hgL P x := by unfold vlL; rw [if_neg (by omega), if_pos k, hP, Int.toNat_natCast]
  intro T lv cv w1 q1 q2 q3 q4
  have hkf : kfn x.d.kind = 43 := by rw [k]; rfl
  rw [hkf, hv]
  rw [hP] at q1 h2 ⊢
  exact hist_any w pb P T x lv cv w1 q1 ht q2 q3 hd.sho hd.l (hS.vs x hx) (hold_may h2 k) q4
 ·have hv : vlL s.p.toNat x = smL x := by unfold vlL; rw [if_neg (by omega), if_neg (by omega)]
  intro T lv cv w1 q1 q2 q3 q4
  have hkf : kfn x.d.kind = 44 := by rw [k]; rfl
  rw [hkf, hv]
  exact summ_any w pb s.p T x lv cv w1 q1 ht hg q2 q3 hd.sho hd.l (hS.vs x hx) q4
end Go.Proofs.YtblkempemdlalaaGreatDoor
