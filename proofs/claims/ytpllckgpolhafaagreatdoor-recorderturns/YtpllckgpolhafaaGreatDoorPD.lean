/- COUNTED, the law's own. Own work of the verifier. -/
import Derived.Test.YtpllckgpolhafaaGreatDoorPC
import Derived.Laws.OwnMore
namespace Go.Proofs.YtpllckgpolhafaaGreatDoor
open Go.RowKit

/-- Counts, value by value. -/
def ex (O : List Cn) : List Int := O.flatMap (fun c => List.replicate c.2 c.1)
/-- Counts that stand for a rising list of buckets. -/
structure CI (ks : List Int) (O : List Cn) : Prop where
  rise : Rise O
  pos : ∀ c ∈ O, 1 ≤ c.2
  all : ex O = ks
theorem ex_append (A B : List Cn) : ex (A ++ B) = ex A ++ ex B := List.flatMap_append
theorem ex_one (c : Cn) : ex [c] = List.replicate c.2 c.1 := by unfold ex; simp
theorem ci_nil : CI [] [] := ⟨List.Pairwise.nil, (fun c hc => by cases hc), rfl⟩
theorem CI.mem {ks : List Int} {O : List Cn} (h : CI ks O) {c : Cn} (hc : c ∈ O) : c.1 ∈ ks := by
  rw [← h.all]
  exact List.mem_flatMap.2 ⟨c, hc, List.mem_replicate.2 ⟨by have := h.pos c hc; omega, rfl⟩⟩
theorem ex_length (O : List Cn) : (ex O).length = (O.map (·.2)).sum := by
  induction O with
  | nil => rfl
  | cons c O ih =>
    show (List.replicate c.2 c.1 ++ ex O).length = _
    rw [List.length_append, List.length_replicate, ih, List.map_cons, List.sum_cons]
theorem CI.len {ks : List Int} {O : List Cn} (h : CI ks O) : O.length ≤ ks.length := by
  rw [← h.all, ex_length]
  have hp := h.pos
  clear h
  induction O with
  | nil => exact Nat.le_refl _
  | cons c O ih =>
    rw [List.map_cons, List.sum_cons, List.length_cons]
    have := hp c List.mem_cons_self
    have := ih (fun d hd => hp d (List.mem_cons_of_mem _ hd))
    omega
/-- A bucket that is new. -/
theorem CI.fresh {ks : List Int} {O : List Cn} {k : Int} (h : CI ks O) (hk : ∀ x ∈ ks, x ≤ k) (hne : ∀ P c, O = P ++ [c] → c.1 ≠ k) : CI (ks ++ [k]) (O ++ [(k, 1)]) := by
  refine ⟨List.pairwise_append.2 ⟨h.rise, List.pairwise_singleton _ _, fun a ha b hb => ?_⟩, fun c hc => ?_, by rw [ex_append, h.all, ex_one]; rfl⟩
  · rw [List.mem_singleton.1 hb]
    show a.1 < k
    have hle := hk _ (h.mem ha)
    rcases Int.lt_or_eq_of_le hle with l | e
    · exact l
    · exfalso
      obtain ⟨P, c, hPc⟩ : ∃ P c, O = P ++ [c] := by
        rcases List.eq_nil_or_concat O with k0 | ⟨P, c, k1⟩
        · rw [k0] at ha; cases ha
        · exact ⟨P, c, by rw [k1]; simp⟩
      have hc := hne P c hPc
      have hle2 := hk _ (h.mem (c := c) (by rw [hPc]; simp))
      rw [hPc] at ha
      rcases List.mem_append.1 ha with m | m
      · have hr := h.rise
        rw [hPc] at hr
        have := (List.pairwise_append.1 hr).2.2 a m c (List.mem_singleton.2 rfl)
        omega
      · rw [List.mem_singleton.1 m] at e
        exact hc e
  · rcases List.mem_append.1 hc with m | m
    · exact h.pos c m
    · rw [List.mem_singleton.1 m]; exact Nat.le_refl _
/-- One more in the last bucket. -/
theorem CI.bump {ks : List Int} {P : List Cn} {k : Int} {n : Nat} (h : CI ks (P ++ [(k, n)])) : CI (ks ++ [k]) (P ++ [(k, n + 1)]) := by
  refine ⟨?_, fun c hc => ?_, ?_⟩
  · have hr := List.pairwise_append.1 h.rise
    refine List.pairwise_append.2 ⟨hr.1, List.pairwise_singleton _ _, fun a ha b hb => ?_⟩
    rw [List.mem_singleton.1 hb]
    exact hr.2.2 a ha (k, n) (List.mem_singleton.2 rfl)
  · rcases List.mem_append.1 hc with m | m
    · exact h.pos c (List.mem_append_left _ m)
    · rw [List.mem_singleton.1 m]; show 1 ≤ n + 1; omega
  · rw [← h.all, ex_append, ex_append, ex_one, ex_one, List.append_assoc]
    show _ ++ List.replicate (n + 1) k = _ ++ (List.replicate n k ++ [k])
    rw [List.replicate_succ']
theorem CI.top {ks : List Int} {P : List Cn} {k : Int} {n : Nat} (h : CI ks (P ++ [(k, n)])) : n ≤ ks.length := by
  rw [← h.all, ex_append, ex_one, List.length_append, List.length_replicate]
  omega
/-- The bucket of a value. -/
def IxIs (p : Nat) (v k : Int) : Prop := ∃ x q : Nat, v = (x : Int) ∧ IsK (2 ^ p) x q ∧ k = (idx (2 ^ p) x q : Nat)
/-- The buckets of values. -/
def KsOf (p : Nat) (S ks : List Int) : Prop := ks.length = S.length ∧ ∀ i (a : i < ks.length) (b : i < S.length), IxIs p S[i] ks[i]
theorem ksOf_snoc {p : Nat} {S ks : List Int} {v k : Int} (h : KsOf p S ks) (hk : IxIs p v k) : KsOf p (S ++ [v]) (ks ++ [k]) := by
  refine ⟨by rw [List.length_append, List.length_append, h.1]; rfl, fun i a b => ?_⟩
  by_cases c : i < S.length
  · rw [List.getElem_append_left c, List.getElem_append_left (by rw [h.1]; exact c)]
    exact h.2 i _ c
  · rw [List.getElem_append_right (by omega), List.getElem_append_right (by rw [h.1]; omega)]
    simpa using hk
/-- Buckets rise with the values. -/
theorem ix_mono {p : Nat} {v v' k k' : Int} (h : IxIs p v k) (h' : IxIs p v' k') (hv : v ≤ v') : k ≤ k' := by
  obtain ⟨x, q, rfl, i1, rfl⟩ := h
  obtain ⟨x', q', rfl, i2, rfl⟩ := h'
  have := idx_mono i1 i2 (by omega)
  omega
theorem ksOf_top {p : Nat} {S ks : List Int} {v k : Int} (h : KsOf p S ks) (hk : IxIs p v k) (hv : ∀ x ∈ S, x ≤ v) : ∀ x ∈ ks, x ≤ k := by
  intro x hx
  obtain ⟨i, hi, rfl⟩ := List.mem_iff_getElem.1 hx
  have hi' : i < S.length := by rw [← h.1]; exact hi
  exact ix_mono (h.2 i hi hi') hk (hv _ (List.getElem_mem hi'))
theorem fl_set (P : List Cn) (a : Int) (b c : Nat) : (fl (P ++ [(a, b)])).set (P.length * 2 + 1) (.int .u64 (c : Int)) = fl (P ++ [(a, c)]) := by
  induction P with
  | nil => rfl
  | cons d P ih =>
    rw [List.length_cons, show (P.length + 1) * 2 + 1 = P.length * 2 + 1 + 1 + 1 by omega, List.cons_append, List.cons_append]
    simp only [fl, List.set_cons_succ]
    rw [ih]
theorem GC.last {B : Nat} {W0 w : World} {g cap m : Nat} {P : List Cn} {a : Int} {b : Nat} (h : GC B W0 (.slice (some ⟨g, 0, none⟩) m cap) (P ++ [(a, b)]) w) : w.cell? ⟨g, P.length * 2, none⟩ = some (.int .i64 a) ∧ w.cell? ⟨g, P.length * 2 + 1, none⟩ = some (.int .u64 (b : Int)) ∧ (∀ o, w.frozen? ⟨g, o, none⟩ = false) ∧ B ≤ g := by
  obtain ⟨ao, b', o, cap', hv, hao, hr⟩ := h.sc
  have hne : P ++ [(a, b)] ≠ [] := by simp
  obtain rfl := hao hne
  cases hv
  have hi : P.length < (P ++ [(a, b)]).length := by simp
  have h1 := hr P.length hi
  have hg : (P ++ [(a, b)])[P.length] = (a, b) := by simp
  rw [hg, Nat.zero_add] at h1
  refine ⟨h1.1, h1.2, ?_, ?_⟩
  · rcases h.own.2 with ⟨k, _⟩ | ⟨g2, cap2, cur, hv2, hB, hh, _⟩
    · cases k
    · cases hv2
      intro o
      unfold World.frozen?
      rw [hh]
      simp
  · rcases h.own.2 with ⟨k, _⟩ | ⟨g2, cap2, cur, hv2, hB, hh, _⟩
    · cases k
    · cases hv2
      exact hB
theorem GC.put {B : Nat} {W0 w : World} {g cap m : Nat} {P : List Cn} {a : Int} {b : Nat} (h : GC B W0 (.slice (some ⟨g, 0, none⟩) m cap) (P ++ [(a, b)]) w) (c : Nat) : GC B W0 (.slice (some ⟨g, 0, none⟩) m cap) (P ++ [(a, c)]) (w.setCell ⟨g, P.length * 2 + 1, none⟩ (.int .u64 (c : Int))) := by
  obtain ⟨ao, b', o, cap', hv, hao, hr⟩ := h.sc
  cases hv
  have hs := h.own.stored (P.length * 2 + 1) (.int .u64 (c : Int))
  rw [fl_set] at hs
  refine ⟨?_, h.below.setCell h.last.2.2.2 _, ?_⟩
  · have := hs.1
    have e1 : (P ++ [(a, c)]).length = (P ++ [(a, b)]).length := by rw [List.length_append, List.length_append]; rfl
    rw [e1]
    exact this
  · have := hs.2.size
    have := h.size
    omega
theorem gc_some {B : Nat} {W0 w : World} {v : Value} {xs : List Cn} (h : GC B W0 v xs w) (hx : xs ≠ []) : ∃ g cap, v = .slice (some ⟨g, 0, none⟩) xs.length cap := by
  rcases gc_form2 h with ⟨_, k⟩ | ⟨g, c, k, _⟩
  · exact absurd k hx
  · exact ⟨g, c, k⟩
theorem ix_in {p : Nat} (hp : p ≤ 14) {v k : Int} (h : IxIs p v k) (hv : v < 9223372036854775808) : 0 ≤ k ∧ k < (((64 - p) * 2 ^ p : Nat) : Int) := by
  obtain ⟨x, q, rfl, i1, rfl⟩ := h
  have := (idx_top hp (by omega : x < 2 ^ 63) i1).1
  omega
theorem KsOf.mem {p : Nat} {S ks : List Int} (h : KsOf p S ks) {k : Int} (hk : k ∈ ks) : ∃ v ∈ S, IxIs p v k := by
  obtain ⟨i, hi, rfl⟩ := List.mem_iff_getElem.1 hk
  have hi' : i < S.length := by rw [← h.1]; exact hi
  exact ⟨_, List.getElem_mem hi', h.2 i hi hi'⟩
theorem rise_few : ∀ (O : List Cn) (a : Nat), Rise O → (∀ c ∈ O, (a : Int) ≤ c.1 ∧ c.1 < 819200) → a ≤ 819200 → O.length + a ≤ 819200
  | [], a, _, _, ha => by simpa using ha
  | c :: O, a, hr, hb, _ => by
    obtain ⟨h1, h2⟩ := List.pairwise_cons.1 hr
    have hc := hb c (by simp)
    have := rise_few O (c.1.toNat + 1) h2 (fun d hd => by have := h1 d hd; have := hb d (by simp [hd]); omega) (by omega)
    simp only [List.length_cons]
    omega
/-- Counts that stand for buckets are few. -/
theorem ci_few {p : Nat} (h2 : p ≤ 14) {S ks : List Int} {O : List Cn} (hS : ∀ x ∈ S, x < 9223372036854775808) (hC : CI ks O) (hK : KsOf p S ks) : O.length ≤ 819200 := by
  have hp : (64 - p) * 2 ^ p ≤ 819200 := by
    have key : ∀ p : Nat, p < 15 → (64 - p) * 2 ^ p ≤ 819200 := by decide
    exact key p (by omega)
  have := rise_few O 0 hC.rise (fun c hc => by
    obtain ⟨v, hv, hi⟩ := hK.mem (hC.mem hc)
    have := ix_in h2 hi (hS v hv)
    omega) (by omega)
  omega
/-- What counted tells. -/
def Cd (W : World) (p : Nat) (S : List Int) (e : Ending) (w' : World) : Prop := ∃ v O ks, e = .returned v ∧ GC W.heap.size W v O w' ∧ CI ks O ∧ KsOf p S ks
end Go.Proofs.YtpllckgpolhafaaGreatDoor
/- WHAT COUNTED COUNTS COME TO: ranks, quantiles. Own work of the verifier. -/
namespace Go.Proofs.YtpllckgpolhafaaGreatDoor
open Go.RowKit

theorem ex_cons (c : Cn) (O : List Cn) : ex (c :: O) = List.replicate c.2 c.1 ++ ex O := List.flatMap_cons
theorem atF_ex : ∀ (O : List Cn) (r : Nat) (_ : 1 ≤ r) (h : r - 1 < (ex O).length), atF O r = ((ex O)[r - 1], 0)
  | [], r, _, h => by simp [ex] at h
  | c :: O, r, h1, h => by
    simp only [atF]
    rw [if_neg (by omega)]
    have e := ex_cons c O
    by_cases k : r ≤ c.2
    · rw [if_pos k]
      have g : (ex (c :: O))[r - 1] = c.1 := by
        rw [List.getElem_of_eq e, List.getElem_append_left (by rw [List.length_replicate]; omega), List.getElem_replicate]
      rw [g]
    · rw [if_neg k]
      have hl : (ex (c :: O)).length = c.2 + (ex O).length := by rw [e, List.length_append, List.length_replicate]
      rw [atF_ex O (r - c.2) (by omega) (by omega)]
      have g : (ex (c :: O))[r - 1] = (ex O)[r - c.2 - 1]'(by omega) := by
        rw [List.getElem_of_eq e, List.getElem_append_right (by rw [List.length_replicate]; omega)]
        congr 1
        rw [List.length_replicate]
        omega
      rw [g]
theorem amN_ex (p : Nat) (v : Int) : ∀ O : List Cn, amN p O v = (ex O).countP (fun k => decide ((hiV p k.toNat : Int) ≤ v))
  | [] => rfl
  | c :: O => by
    rw [ex_cons, List.countP_append, List.countP_replicate, ← amN_ex p v O]
    unfold amN
    rw [List.map_cons, List.sum_cons]
    simp
theorem CI.sum {ks : List Int} {O : List Cn} (h : CI ks O) : sumN O = ks.length := by rw [← h.all, ex_length]; rfl
theorem CI.at {ks : List Int} {O : List Cn} (h : CI ks O) {r : Nat} (h1 : 1 ≤ r) (h2 : r - 1 < ks.length) : atF O r = (ks[r - 1], 0) := by
  have e := h.all
  subst e
  exact atF_ex O r h1 h2
theorem lo_mono {P i j : Nat} (hP : 0 < P) (h : i ≤ j) : lo P i ≤ lo P j := by
  obtain ⟨d, rfl⟩ := Nat.exists_eq_add_of_le h
  clear h
  induction d with
  | zero => exact Nat.le_refl _
  | succ d ih =>
    have := lo_next (i + d) hP
    rw [← Nat.add_assoc, this]
    exact Nat.le_trans ih (Nat.le_add_right _ _)
theorem hiV_mono {p i j : Nat} (h : i ≤ j) : hiV p i ≤ hiV p j := by
  have hP := Nat.two_pow_pos p
  unfold hiV
  rw [← lo_next i hP, ← lo_next j hP]
  have := lo_mono hP (show i + 1 ≤ j + 1 by omega)
  omega
theorem ix_uniq {p : Nat} {v k k' : Int} (h : IxIs p v k) (h' : IxIs p v k') : k = k' := Int.le_antisymm (ix_mono h h' (Int.le_refl _)) (ix_mono h' h (Int.le_refl _))
/-- A value stands between the ends of its bucket. -/
theorem ix_wide {p : Nat} {v k : Int} (h : IxIs p v k) : v ≤ (hiV p k.toNat : Int) ∧ (hiV p k.toNat : Int) - v ≤ v / ((2 ^ p : Nat) : Int) := by
  obtain ⟨x, q, rfl, i1, rfl⟩ := h
  rw [Int.toNat_natCast, ← Int.natCast_ediv]
  have a1 := lo_le i1
  have a2 := wide_ok i1
  unfold hiV
  rw [kk_idx i1]
  have := Nat.two_pow_pos q
  generalize x / 2 ^ p = y at *
  generalize lo (2 ^ p) (idx (2 ^ p) x q) = l at *
  omega
theorem srtI_get {S : List Int} (h : SrtI S) {i j : Nat} (hij : i ≤ j) (hj : j < S.length) : S[i]'(by omega) ≤ S[j] := by
  rcases Nat.lt_or_ge i j with k | k
  · exact List.pairwise_iff_getElem.1 h i j (by omega) hj k
  · have : i = j := by omega
    subst this
    exact Int.le_refl _
theorem getD_at {O : List Cn} {j : Nat} (h : j < O.length) : O.getD j (0, 1) = O[j] := by simp [List.getD, h]
theorem counted_may {p : Nat} {S ks : List Int} {O : List Cn} (h1 : 1 ≤ p) (h2 : p ≤ 14) (hl : S.length ≤ 17592186043904) (hS : ∀ x ∈ S, 0 ≤ x ∧ x < 9223372036854775808) (hC : CI ks O) (hK : KsOf p S ks) : MayIs (p : Int) O 0 := by
  refine Or.inr ⟨by omega, Or.inr ⟨fun j hj => ?_, ?_⟩⟩
  · rw [Int.toNat_natCast]
    obtain ⟨v, hv, hix⟩ := hK.mem (hC.mem (List.getElem_mem hj))
    have hin := ix_in h2 hix (hS v hv).2
    have hpos := hC.pos _ (List.getElem_mem hj)
    unfold bad
    rw [getD_at hj]
    rw [if_neg (by omega), if_neg, if_neg (by omega)]
    rintro ⟨k1, k2⟩
    rw [getD_at (show j - 1 < O.length by omega)] at k2
    have := List.pairwise_iff_getElem.1 hC.rise (j - 1) j (by omega) hj (by omega)
    omega
  · rw [if_neg]
    rw [hC.sum, hK.1]
    omega
/-- At the quantile's own value at least so many. -/
theorem counted_most {p r : Nat} {S ks : List Int} {O : List Cn} (hC : CI ks O) (hK : KsOf p S ks) (hs : SrtI S) (h1 : 1 ≤ r) (hr : r - 1 < ks.length) : r ≤ amN p O (hiV p ks[r - 1].toNat : Nat) := by
  rw [amN_ex, hC.all]
  have e := List.take_append_drop r ks
  have hc : (ks.take r).countP (fun k => decide ((hiV p k.toNat : Int) ≤ (hiV p ks[r - 1].toNat : Nat))) = (ks.take r).length := by
    rw [List.countP_eq_length]
    intro k hk
    obtain ⟨i, hi, rfl⟩ := List.mem_iff_getElem.1 hk
    rw [List.length_take] at hi
    rw [List.getElem_take]
    refine decide_eq_true ?_
    have hl := hK.1
    have hix := hK.2 i (by omega) (by omega)
    have hix2 := hK.2 (r - 1) hr (by omega)
    have := ix_mono hix hix2 (srtI_get hs (by omega) (by omega))
    have := hiV_mono (p := p) (Int.toNat_le_toNat this)
    omega
  have : (ks.take r).countP (fun k => decide ((hiV p k.toNat : Int) ≤ (hiV p ks[r - 1].toNat : Nat))) ≤ ks.countP (fun k => decide ((hiV p k.toNat : Int) ≤ (hiV p ks[r - 1].toNat : Nat))) := List.Sublist.countP_le (List.take_sublist _ _)
  rw [hc, List.length_take] at this
  omega
end Go.Proofs.YtpllckgpolhafaaGreatDoor
/- WITHIN, the law's own, for whatever AtMost does. Own work of the verifier. -/
namespace Go.Proofs.YtpllckgpolhafaaGreatDoor
open Go.RowKit

end Go.Proofs.YtpllckgpolhafaaGreatDoor
/- THE WALK OF THE QUANTILES' LAW, for whatever keeps the document's answers. Own work of the verifier. -/
namespace Go.Proofs.YtpllckgpolhafaaGreatDoor
open Go.RowKit

/-- A slice of counts, as it is handed in. -/
def SN (w : World) (v : Value) (L : List Cn) : Prop := (v = .slice none 0 0 ∧ L = []) ∨ ∃ b o cap, v = .slice (some ⟨b, o, none⟩) L.length cap ∧ L.length ≤ cap ∧ RowC w b o L
theorem SN.sc {w : World} {v : Value} {L : List Cn} (h : SN w v L) : SC w v L := by
  rcases h with ⟨rfl, rfl⟩ | ⟨b, o, cap, rfl, _, hr⟩
  · exact ⟨none, 0, 0, 0, rfl, fun k => absurd rfl k, fun i hi => by simp at hi⟩
  · exact ⟨_, b, o, cap, rfl, fun _ => rfl, hr⟩
theorem SN.below {w w1 : World} {v : Value} {L : List Cn} (h : SN w v L) (hb : Below w.heap.size w w1) : SN w1 v L := by
  rcases h with h | ⟨b, o, cap, h1, h2, hr⟩
  · exact Or.inl h
  · exact Or.inr ⟨b, o, cap, h1, h2, hr.below hb (fun k => hr.lt k)⟩
theorem GC.sn {B : Nat} {W0 w : World} {v : Value} {xs : List Cn} (h : GC B W0 v xs w) : SN w v xs := by
  rcases gc_form2 h with ⟨rfl, rfl⟩ | ⟨g, cap, rfl, hc⟩
  · exact Or.inl ⟨rfl, rfl⟩
  · obtain ⟨ao, b, o, c, hv, hao, hr⟩ := h.sc
    refine Or.inr ⟨g, 0, cap, rfl, hc, fun i hi => ?_⟩
    have hne : xs ≠ [] := fun e => by rw [e] at hi; simp at hi
    have := hao hne
    subst this
    cases hv
    exact hr i hi
end Go.Proofs.YtpllckgpolhafaaGreatDoor
