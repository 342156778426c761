/- Same, Compare, the document's. Own work of the verifier. -/
import Derived.Test.YtmphajfhilpgeaaLA9
namespace Go.Proofs.Ytmphajfhilpgeaa
open Go.RowKit

/-- A description. -/
structure Ds where
  kind : Int
  name : List UInt8
  help : List UInt8
  labels : List Lb
  deriving DecidableEq
/-- A description as it is handed in. -/
structure DsAt (W : World) (d : Ds) (v : Value) : Prop where
  ex : ∃ (ao : Option Addr) (b o cap : Nat), v = .agg #[.int .i64 d.kind, .string ⟨d.name.toArray⟩, .string ⟨d.help.toArray⟩, .slice ao d.labels.length cap] ∧ (d.labels ≠ [] → ao = some ⟨b, o, none⟩) ∧ d.labels.length ≤ 9223372036854775807 ∧ RowL W b o d.labels
theorem DsAt.below {W W1 : World} {d : Ds} {v : Value} (h : DsAt W d v) (hb : Below W.heap.size W W1) : DsAt W1 d v := by
  obtain ⟨ao, b, o, cap, e, h1, h2, h3⟩ := h.ex
  exact ⟨ao, b, o, cap, e, h1, h2, h3.below hb⟩
theorem bel2 (w : World) (o1 o2 : Obj) : Below w.heap.size w ((w.alloc o1).alloc o2) :=
  ((Below.refl _ _).alloc (Nat.le_refl _) _).alloc (by simp) _
set_option maxHeartbeats 2000000 in
set_option maxRecDepth 100000 in
theorem dsame_any (d e : Ds) (v u : Value) (w : World) (hd : DsAt w d v) (he : DsAt w e u) :
    Calls Try.prog 19 #[v, u] w fun r w' => r = .returned (.bool (decide (d = e))) ∧ Below w.heap.size w w' := by
  obtain ⟨ao, b, o, cap, rfl, h1, h2, h3⟩ := hd.ex
  obtain ⟨ao', b', o', cap', rfl, k1, k2, k3⟩ := he.ex
  obtain ⟨kd, n, h, L⟩ := d
  obtain ⟨kd', n', h', L'⟩ := e
  have HSL : Hid (∀ W, Below w.heap.size w W → Calls Try.prog 25 #[.slice ao L.length cap, .slice ao' L'.length cap'] W fun e w' => e = .returned (.bool (decide (L = L'))) ∧ ∃ n, w' = W.drewN n) := fun W hb => samel_any ao b o cap L h1 ao' b' o' cap' L' k1 h2 W (h3.below hb) (k3.below hb)
  clear h1 h2 h3 k1 k2 k3 hd he
  by_cases g1 : kd = kd'
  · subst g1
    by_cases g2 : n = n'
    · subst g2
      by_cases g3 : h = h'
      · subst g3
        have hE : decide ((⟨kd, n, h, L⟩ : Ds) = ⟨kd, n, h, L'⟩) = decide (L = L') := decide_eq_decide.2 ⟨fun e => (Ds.mk.inj e).2.2.2, fun e => by rw [e]⟩
        have HE : Hid _ := hE
        clear hE
        as_aux_lemma =>
          go_enter Try.func19, Try.ntmps19
          go_wp2_with fail
          refine (HSL.out _ (bel2 w _ _)).mono ?_
          rintro r w1 ⟨rfl, m, rfl⟩
          go_wp2_with fail
          go_ret
          exact ⟨retB HE.out.symm, (bel2 w _ _).trans ((below_drewN _ m).mono (bel2 w _ _).size)⟩
      · have g3' : (h == h') = false := by simpa using g3
        rw [show decide ((⟨kd, n, h, L⟩ : Ds) = ⟨kd, n, h', L'⟩) = false from decide_eq_false (fun e => g3 (Ds.mk.inj e).2.2.1)]
        clear g3
        as_aux_lemma =>
          go_enter Try.func19, Try.ntmps19
          go_wp2_with fail
          go_ret
          exact ⟨rfl, bel2 w _ _⟩
    · have g2' : (n == n') = false := by simpa using g2
      rw [show decide ((⟨kd, n, h, L⟩ : Ds) = ⟨kd, n', h', L'⟩) = false from decide_eq_false (fun e => g2 (Ds.mk.inj e).2.1)]
      clear g2
      as_aux_lemma =>
        go_enter Try.func19, Try.ntmps19
        go_wp2_with fail
        go_ret
        exact ⟨rfl, bel2 w _ _⟩
  · have g1' : (kd == kd') = false := by simpa using g1
    rw [show decide ((⟨kd, n, h, L⟩ : Ds) = ⟨kd', n', h', L'⟩) = false from decide_eq_false (fun e => g1 (Ds.mk.inj e).1)]
    clear g1
    as_aux_lemma =>
      go_enter Try.func19, Try.ntmps19
      go_wp2_with fail
      go_ret
      exact ⟨rfl, bel2 w _ _⟩
/-- How two lists of labels stand. -/
def ordL : List Lb → List Lb → Int
  | [], [] => 0
  | [], _ :: _ => -1
  | _ :: _, [] => 1
  | a :: A, b :: B => if ordE a.1 b.1 ≠ 0 then ordE a.1 b.1 else if ordE a.2 b.2 ≠ 0 then ordE a.2 b.2 else ordL A B
/-- How two series stand. -/
def ordD (d e : Ds) : Int := if ordE d.name e.name ≠ 0 then ordE d.name e.name else ordL d.labels e.labels
theorem ordL_drop (A B : List Lb) (i : Nat) (h1 : i < A.length) (h2 : i < B.length) : ordL (A.drop i) (B.drop i) = if ordE A[i].1 B[i].1 ≠ 0 then ordE A[i].1 B[i].1 else if ordE A[i].2 B[i].2 ≠ 0 then ordE A[i].2 B[i].2 else ordL (A.drop (i + 1)) (B.drop (i + 1)) := by
  rw [List.drop_eq_getElem_cons h1, List.drop_eq_getElem_cons h2, ordL]
theorem ordL_end (A B : List Lb) (i : Nat) (h : ¬ (i < A.length ∧ i < B.length)) (h1 : i ≤ A.length) (h2 : i ≤ B.length) : ordL (A.drop i) (B.drop i) = if A.length < B.length then -1 else if B.length < A.length then 1 else 0 := by
  rcases Nat.lt_or_ge i A.length with g | g
  · have g2 : B.length = i := by omega
    rw [List.drop_eq_getElem_cons g, List.drop_eq_nil_of_le (by omega : B.length ≤ i), ordL, if_neg (by omega), if_pos (by omega)]
  · rw [List.drop_eq_nil_of_le g]
    rcases Nat.lt_or_ge i B.length with k | k
    · rw [List.drop_eq_getElem_cons k, ordL, if_pos (by omega)]
    · rw [List.drop_eq_nil_of_le k, ordL, if_neg (by omega), if_neg (by omega)]
end Go.Proofs.Ytmphajfhilpgeaa
