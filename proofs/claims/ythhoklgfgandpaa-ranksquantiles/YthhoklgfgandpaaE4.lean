/- COUNTED, the law's own. Own work of the verifier. -/
import Derived.Test.YthhoklgfgandpaaE3
import Derived.Test.YthhoklgfgandpaaC11
import Derived.Laws.OwnMore
namespace Go.Proofs.Ythhoklgfgandpaa
open Go.RowKit

/-- Counts, value by value. -/
def ex (O : List Cn) : List Int := O.flatMap (fun c => List.replicate c.2 c.1)
/-- Counts that stand for a rising list of buckets. -/
structure CI (ks : List Int) (O : List Cn) : Prop where
  rise : Rise O
  pos : ∀ c ∈ O, 1 ≤ c.2
  all : ex O = ks
theorem ex_append (A B : List Cn) : ex (A ++ B) = ex A ++ ex B := List.flatMap_append
theorem ex_one (c : Cn) : ex [c] = List.replicate c.2 c.1 := by unfold ex; simp
theorem ci_nil : CI [] [] := ⟨List.Pairwise.nil, (fun c hc => by cases hc), rfl⟩
theorem CI.mem {ks : List Int} {O : List Cn} (h : CI ks O) {c : Cn} (hc : c ∈ O) : c.1 ∈ ks := by
  rw [← h.all]
  exact List.mem_flatMap.2 ⟨c, hc, List.mem_replicate.2 ⟨by have := h.pos c hc; omega, rfl⟩⟩
theorem ex_length (O : List Cn) : (ex O).length = (O.map (·.2)).sum := by
  induction O with
  | nil => rfl
  | cons c O ih =>
    show (List.replicate c.2 c.1 ++ ex O).length = _
    rw [List.length_append, List.length_replicate, ih, List.map_cons, List.sum_cons]
theorem CI.len {ks : List Int} {O : List Cn} (h : CI ks O) : O.length ≤ ks.length := by
  rw [← h.all, ex_length]
  have hp := h.pos
  clear h
  induction O with
  | nil => exact Nat.le_refl _
  | cons c O ih =>
    rw [List.map_cons, List.sum_cons, List.length_cons]
    have := hp c List.mem_cons_self
    have := ih (fun d hd => hp d (List.mem_cons_of_mem _ hd))
    omega
/-- A bucket that is new. -/
theorem CI.fresh {ks : List Int} {O : List Cn} {k : Int} (h : CI ks O) (hk : ∀ x ∈ ks, x ≤ k) (hne : ∀ P c, O = P ++ [c] → c.1 ≠ k) : CI (ks ++ [k]) (O ++ [(k, 1)]) := by
  refine ⟨List.pairwise_append.2 ⟨h.rise, List.pairwise_singleton _ _, fun a ha b hb => ?_⟩, fun c hc => ?_, by rw [ex_append, h.all, ex_one]; rfl⟩
  · rw [List.mem_singleton.1 hb]
    show a.1 < k
    have hle := hk _ (h.mem ha)
    rcases Int.lt_or_eq_of_le hle with l | e
    · exact l
    · exfalso
      obtain ⟨P, c, hPc⟩ : ∃ P c, O = P ++ [c] := by
        rcases List.eq_nil_or_concat O with k0 | ⟨P, c, k1⟩
        · rw [k0] at ha; cases ha
        · exact ⟨P, c, by rw [k1]; simp⟩
      have hc := hne P c hPc
      have hle2 := hk _ (h.mem (c := c) (by rw [hPc]; simp))
      rw [hPc] at ha
      rcases List.mem_append.1 ha with m | m
      · have hr := h.rise
        rw [hPc] at hr
        have := (List.pairwise_append.1 hr).2.2 a m c (List.mem_singleton.2 rfl)
        omega
      · rw [List.mem_singleton.1 m] at e
        exact hc e
  · rcases List.mem_append.1 hc with m | m
    · exact h.pos c m
    · rw [List.mem_singleton.1 m]; exact Nat.le_refl _
/-- One more in the last bucket. -/
theorem CI.bump {ks : List Int} {P : List Cn} {k : Int} {n : Nat} (h : CI ks (P ++ [(k, n)])) : CI (ks ++ [k]) (P ++ [(k, n + 1)]) := by
  refine ⟨?_, fun c hc => ?_, ?_⟩
  · have hr := List.pairwise_append.1 h.rise
    refine List.pairwise_append.2 ⟨hr.1, List.pairwise_singleton _ _, fun a ha b hb => ?_⟩
    rw [List.mem_singleton.1 hb]
    exact hr.2.2 a ha (k, n) (List.mem_singleton.2 rfl)
  · rcases List.mem_append.1 hc with m | m
    · exact h.pos c (List.mem_append_left _ m)
    · rw [List.mem_singleton.1 m]; show 1 ≤ n + 1; omega
  · rw [← h.all, ex_append, ex_append, ex_one, ex_one, List.append_assoc]
    show _ ++ List.replicate (n + 1) k = _ ++ (List.replicate n k ++ [k])
    rw [List.replicate_succ']
theorem CI.top {ks : List Int} {P : List Cn} {k : Int} {n : Nat} (h : CI ks (P ++ [(k, n)])) : n ≤ ks.length := by
  rw [← h.all, ex_append, ex_one, List.length_append, List.length_replicate]
  omega
/-- The bucket of a value. -/
def IxIs (p : Nat) (v k : Int) : Prop := ∃ x q : Nat, v = (x : Int) ∧ IsK (2 ^ p) x q ∧ k = (idx (2 ^ p) x q : Nat)
/-- The buckets of values. -/
def KsOf (p : Nat) (S ks : List Int) : Prop := ks.length = S.length ∧ ∀ i (a : i < ks.length) (b : i < S.length), IxIs p S[i] ks[i]
theorem ksOf_snoc {p : Nat} {S ks : List Int} {v k : Int} (h : KsOf p S ks) (hk : IxIs p v k) : KsOf p (S ++ [v]) (ks ++ [k]) := by
  refine ⟨by rw [List.length_append, List.length_append, h.1]; rfl, fun i a b => ?_⟩
  by_cases c : i < S.length
  · rw [List.getElem_append_left c, List.getElem_append_left (by rw [h.1]; exact c)]
    exact h.2 i _ c
  · rw [List.getElem_append_right (by omega), List.getElem_append_right (by rw [h.1]; omega)]
    simpa using hk
/-- Buckets rise with the values. -/
theorem ix_mono {p : Nat} {v v' k k' : Int} (h : IxIs p v k) (h' : IxIs p v' k') (hv : v ≤ v') : k ≤ k' := by
  obtain ⟨x, q, rfl, i1, rfl⟩ := h
  obtain ⟨x', q', rfl, i2, rfl⟩ := h'
  have := idx_mono i1 i2 (by omega)
  omega
theorem ksOf_top {p : Nat} {S ks : List Int} {v k : Int} (h : KsOf p S ks) (hk : IxIs p v k) (hv : ∀ x ∈ S, x ≤ v) : ∀ x ∈ ks, x ≤ k := by
  intro x hx
  obtain ⟨i, hi, rfl⟩ := List.mem_iff_getElem.1 hx
  have hi' : i < S.length := by rw [← h.1]; exact hi
  exact ix_mono (h.2 i hi hi') hk (hv _ (List.getElem_mem hi'))
theorem fl_set (P : List Cn) (a : Int) (b c : Nat) : (fl (P ++ [(a, b)])).set (P.length * 2 + 1) (.int .u64 (c : Int)) = fl (P ++ [(a, c)]) := by
  induction P with
  | nil => rfl
  | cons d P ih =>
    rw [List.length_cons, show (P.length + 1) * 2 + 1 = P.length * 2 + 1 + 1 + 1 by omega, List.cons_append, List.cons_append]
    simp only [fl, List.set_cons_succ]
    rw [ih]
theorem GC.last {B : Nat} {W0 w : World} {g cap m : Nat} {P : List Cn} {a : Int} {b : Nat} (h : GC B W0 (.slice (some ⟨g, 0, none⟩) m cap) (P ++ [(a, b)]) w) : w.cell? ⟨g, P.length * 2, none⟩ = some (.int .i64 a) ∧ w.cell? ⟨g, P.length * 2 + 1, none⟩ = some (.int .u64 (b : Int)) ∧ (∀ o, w.frozen? ⟨g, o, none⟩ = false) ∧ B ≤ g := by
  obtain ⟨ao, b', o, cap', hv, hao, hr⟩ := h.sc
  have hne : P ++ [(a, b)] ≠ [] := by simp
  obtain rfl := hao hne
  cases hv
  have hi : P.length < (P ++ [(a, b)]).length := by simp
  have h1 := hr P.length hi
  have hg : (P ++ [(a, b)])[P.length] = (a, b) := by simp
  rw [hg, Nat.zero_add] at h1
  refine ⟨h1.1, h1.2, ?_, ?_⟩
  · rcases h.own.2 with ⟨k, _⟩ | ⟨g2, cap2, cur, hv2, hB, hh, _⟩
    · cases k
    · cases hv2
      intro o
      unfold World.frozen?
      rw [hh]
      simp
  · rcases h.own.2 with ⟨k, _⟩ | ⟨g2, cap2, cur, hv2, hB, hh, _⟩
    · cases k
    · cases hv2
      exact hB
theorem GC.put {B : Nat} {W0 w : World} {g cap m : Nat} {P : List Cn} {a : Int} {b : Nat} (h : GC B W0 (.slice (some ⟨g, 0, none⟩) m cap) (P ++ [(a, b)]) w) (c : Nat) : GC B W0 (.slice (some ⟨g, 0, none⟩) m cap) (P ++ [(a, c)]) (w.setCell ⟨g, P.length * 2 + 1, none⟩ (.int .u64 (c : Int))) := by
  obtain ⟨ao, b', o, cap', hv, hao, hr⟩ := h.sc
  cases hv
  have hs := h.own.stored (P.length * 2 + 1) (.int .u64 (c : Int))
  rw [fl_set] at hs
  refine ⟨?_, h.below.setCell h.last.2.2.2 _, ?_⟩
  · have := hs.1
    have e1 : (P ++ [(a, c)]).length = (P ++ [(a, b)]).length := by rw [List.length_append, List.length_append]; rfl
    rw [e1]
    exact this
  · have := hs.2.size
    have := h.size
    omega
theorem gc_some {B : Nat} {W0 w : World} {v : Value} {xs : List Cn} (h : GC B W0 v xs w) (hx : xs ≠ []) : ∃ g cap, v = .slice (some ⟨g, 0, none⟩) xs.length cap := by
  rcases gc_form2 h with ⟨_, k⟩ | ⟨g, c, k, _⟩
  · exact absurd k hx
  · exact ⟨g, c, k⟩
theorem ix_in {p : Nat} (hp : p ≤ 14) {v k : Int} (h : IxIs p v k) (hv : v < 9223372036854775808) : 0 ≤ k ∧ k < (((64 - p) * 2 ^ p : Nat) : Int) := by
  obtain ⟨x, q, rfl, i1, rfl⟩ := h
  have := (idx_top hp (by omega : x < 2 ^ 63) i1).1
  omega
theorem KsOf.mem {p : Nat} {S ks : List Int} (h : KsOf p S ks) {k : Int} (hk : k ∈ ks) : ∃ v ∈ S, IxIs p v k := by
  obtain ⟨i, hi, rfl⟩ := List.mem_iff_getElem.1 hk
  have hi' : i < S.length := by rw [← h.1]; exact hi
  exact ⟨_, List.getElem_mem hi', h.2 i hi hi'⟩
theorem rise_few : ∀ (O : List Cn) (a : Nat), Rise O → (∀ c ∈ O, (a : Int) ≤ c.1 ∧ c.1 < 819200) → a ≤ 819200 → O.length + a ≤ 819200
  | [], a, _, _, ha => by simpa using ha
  | c :: O, a, hr, hb, _ => by
    obtain ⟨h1, h2⟩ := List.pairwise_cons.1 hr
    have hc := hb c (by simp)
    have := rise_few O (c.1.toNat + 1) h2 (fun d hd => by have := h1 d hd; have := hb d (by simp [hd]); omega) (by omega)
    simp only [List.length_cons]
    omega
/-- Counts that stand for buckets are few. -/
theorem ci_few {p : Nat} (h2 : p ≤ 14) {S ks : List Int} {O : List Cn} (hS : ∀ x ∈ S, x < 9223372036854775808) (hC : CI ks O) (hK : KsOf p S ks) : O.length ≤ 819200 := by
  have hp : (64 - p) * 2 ^ p ≤ 819200 := by
    have key : ∀ p : Nat, p < 15 → (64 - p) * 2 ^ p ≤ 819200 := by decide
    exact key p (by omega)
  have := rise_few O 0 hC.rise (fun c hc => by
    obtain ⟨v, hv, hi⟩ := hK.mem (hC.mem hc)
    have := ix_in h2 hi (hS v hv)
    omega) (by omega)
  omega
/-- What counted tells. -/
def Cd (W : World) (p : Nat) (S : List Int) (e : Ending) (w' : World) : Prop := ∃ v O ks, e = .returned v ∧ GC W.heap.size W v O w' ∧ CI ks O ∧ KsOf p S ks
set_option maxRecDepth 10000 in
set_option maxHeartbeats 2000000 in
theorem counted_any (p : Nat) (h1 : 1 ≤ p) (h2 : p ≤ 14) (g cap : Nat) (S : List Int) (hl : S.length ≤ 17592186043904) (hS : ∀ x ∈ S, 0 ≤ x ∧ x < 9223372036854775808) (hs : SrtI S) (w : World) (hR : RowI w g 0 S) :
    Calls Try.prog 25 #[.int .i64 (p : Int), .slice (some ⟨g, 0, none⟩) S.length cap] w fun e w' => Cd w p S e w' := by
  obtain ⟨i0, hi, hz0, hz1, hz2⟩ := info_parts infoC
  obtain ⟨n, hn⟩ : ∃ n, S.length = n := ⟨_, rfl⟩
  have HR : Hid (RowI w g 0 S) := hR
  have HN : Hid _ := hn
  have HS : Hid _ := hS
  have Hs : Hid (SrtI S) := hs
  rw [hn] at hl ⊢
  clear hR hn hS hs
  go_enter Try.func25, Try.ntmps25
  go_wp2_with fail
  go_loopw [5, 6] (fun d a wr => ∃ (i : Nat) (O : List Cn) (ks : List Int) (g1 c1 : Nat), i ≤ n ∧ a = .int .i64 (i : Int) ∧ d = .slice (some ⟨g1, 0, none⟩) O.length c1 ∧ Hid (GC w.heap.size w d O wr) ∧ Hid (CI ks O ∧ KsOf p (S.take i) ks) ∧ O.length ≤ i) (fun _ a _ => n - (intOf a).toNat)
  case atStart => exact ⟨0, [], [], _, _, by omega, rfl, rfl, gc_new w, ⟨ci_nil, rfl, fun i a b => by simp at a⟩, by simp⟩
  case round =>
    obtain ⟨i, O, ks, g1, c1, hil, rfl, rfl, hG, hC, hOl⟩ := hrel
    by_cases hlt : i < n
    · have hlt' : (i : Int) < (n : Int) := by omega
      have u1 : i < S.length := by rw [HN.out]; exact hlt
      obtain ⟨x, hx, hx2⟩ : ∃ x : Nat, S[i] = (x : Int) ∧ x < 9223372036854775808 := by
        have := HS.out S[i] (List.getElem_mem u1)
        exact ⟨S[i].toNat, by omega, by omega⟩
      have q1 := HR.out.below hG.out.below (fun k => HR.out.lt k) i u1
      rw [Nat.zero_add, hx] at q1
      have HX : Hid (∀ W, _) := rindex_yes p x h1 h2 hx2
      have HT : Hid (∀ q, IsK (2 ^ p) x q → (∀ y ∈ ks, y ≤ ((idx (2 ^ p) x q : Nat) : Int)) ∧ KsOf p (S.take (i + 1)) (ks ++ [((idx (2 ^ p) x q : Nat) : Int)])) := fun q hq => by
        have hix : IxIs p S[i] ((idx (2 ^ p) x q : Nat) : Int) := ⟨x, q, hx, hq, rfl⟩
        refine ⟨ksOf_top hC.out.2 hix (fun y hy => ?_), ?_⟩
        · have hsp := Hs.out
          rw [← List.take_append_drop i S] at hsp
          refine (List.pairwise_append.1 hsp).2.2 y hy _ ?_
          rw [List.drop_eq_getElem_cons u1]
          exact List.mem_cons_self
        · rw [List.take_succ_eq_append_getElem u1]
          exact ksOf_snoc hC.out.2 hix
      have hsz : w.heap.size ≤ wr.heap.size := hG.out.size
      have hOf : O.length ≤ 819200 := ci_few h2 (fun y hy => (HS.out y (List.mem_of_mem_take hy)).2) hC.out.1 hC.out.2
      clear hx
      rcases List.eq_nil_or_concat O with k0 | ⟨P, ⟨a, b⟩, k0⟩
      · have HO : Hid (O = []) := k0
        have hO0 : O.length = 0 := by rw [k0]; rfl
        rw [hO0] at hG ⊢
        clear k0
        go_wp2_with (first
          | (go_at_call 46; with_reducible refine (HX.out _).mono ?_; rintro e w1 ⟨⟨m, rfl⟩, q, hq, rfl⟩; have hGd := gc_drewN hG.out m)
          | ((at_builtin; refine wpList_append_own _ rfl _ _ 23 rfl w.heap.size 49 i0 (.agg #[.int .i64 0, .int .u64 0]) 2 16 Try.underlying23 hi hz0 hz1 hz2 rfl (by decide) _ _ _ rfl (hGd.own.alloc _) ⟨_, 0, none⟩ 1 1 [_, _] rfl rfl (cell_two_new _ _ _ _) (two_one ((idx (2 ^ p) x q : Nat) : Int) 1) (by unfold maxLen; omega) (by omega) (by simp; omega) ?_; intro v' w' hown hgrow hnil; have hg' := hGd.push (((idx (2 ^ p) x q : Nat) : Int), 1) _ hown hgrow; clear hown hgrow hnil)))
        obtain ⟨g2, c2, hv2⟩ := gc_some hg' (by simp)
        exact ⟨⟨i + 1, _, ks ++ [((idx (2 ^ p) x q : Nat) : Int)], g2, c2, by omega, rfl, hv2, hg', ⟨hC.out.1.fresh (HT.out q hq).1 (fun P c e => by rw [HO.out] at e; simp at e), (HT.out q hq).2⟩, by rw [List.length_append, List.length_singleton]; omega⟩, by simp [intOf]; omega⟩
      · have HO : Hid (O = P ++ [(a, b)]) := by rw [k0]; exact List.concat_eq_append
        obtain ⟨L, hL⟩ : ∃ L, P.length = L := ⟨_, rfl⟩
        obtain ⟨M, hM⟩ : ∃ M, O.length = M := ⟨_, rfl⟩
        have hML : M = L + 1 := by rw [← hM, ← hL, HO.out]; simp
        have HLL : Hid _ := hL
        have HMM : Hid _ := hM
        rw [hM] at hG ⊢
        have m1 : wrap64 ((M : Int) - 1) = (L : Int) := by unfold wrap64; omega
        have m2 : (0 : Int) < (M : Int) := by omega
        have m3 : (L : Int) < (M : Int) := by omega
        have hbi : b ≤ i := by
          have := hC.out.1
          rw [HO.out] at this
          have := this.top
          have e := hC.out.2.1
          rw [List.length_take] at e
          omega
        have m4 : IntKind.u64.wrap ((b : Int) + 1) = ((b + 1 : Nat) : Int) := by rw [IntKind.wrap_u64]; omega
        have HZ : Hid (∀ m, (wr.drewN m).cell? ⟨g1, L * 2, none⟩ = some (.int .i64 a) ∧ (wr.drewN m).cell? ⟨g1, L * 2 + 1, none⟩ = some (.int .u64 (b : Int)) ∧ (wr.drewN m).frozen? ⟨g1, L * 2 + 1, none⟩ = false) := fun m => by
          have h := gc_drewN hG.out m
          rw [HO.out] at h
          have := h.last
          rw [HLL.out] at this
          exact ⟨this.1, this.2.1, this.2.2.1 _⟩
        clear hL hM k0 hML
        go_wp2_with (first
          | (go_at_call 46; with_reducible refine (HX.out _).mono ?_; rintro e w1 ⟨⟨m, rfl⟩, q, hq, rfl⟩; have hGd := gc_drewN hG.out m; obtain ⟨z1, z2, z3⟩ := HZ.out m)
          | (at_builtin; refine wpList_append_own _ rfl _ _ 23 rfl w.heap.size 49 i0 (.agg #[.int .i64 0, .int .u64 0]) 2 16 Try.underlying23 hi hz0 hz1 hz2 rfl (by decide) _ _ _ rfl (hGd.own.alloc _) ⟨_, 0, none⟩ 1 1 [_, _] rfl rfl (cell_two_new _ _ _ _) (two_one ((idx (2 ^ p) x q : Nat) : Int) 1) (by unfold maxLen; omega) (by omega) (by simp; omega) ?_; intro v' w' hown hgrow hnil; have hg' := hGd.push (((idx (2 ^ p) x q : Nat) : Int), 1) _ hown hgrow; clear hown hgrow hnil))
        · rename_i _ heq
          have hk : a = ((idx (2 ^ p) x q : Nat) : Int) := beq_iff_eq.1 heq
          have hp := HO.out ▸ hGd
          have hp2 := GC.put hp (b + 1)
          rw [HLL.out] at hp2
          have hc := HO.out ▸ hC.out.1
          rw [hk] at hc
          have hc2 := CI.bump hc
          rw [← hk] at hc2
          have hlen : (P ++ [(a, b + 1)]).length = M := by rw [← HMM.out, HO.out, List.length_append, List.length_append]; rfl
          have h3 := (HT.out q hq).2
          rw [← hk] at h3
          exact ⟨⟨i + 1, P ++ [(a, b + 1)], ks ++ [a], g1, c1, by omega, rfl, by rw [hlen], hp2, ⟨hc2, h3⟩, by rw [hlen]; have := HMM.out; omega⟩, by simp [intOf]; omega⟩
        · rename_i _ heq
          have hk : a ≠ ((idx (2 ^ p) x q : Nat) : Int) := beq_eq_false_iff_ne.1 heq
          obtain ⟨g2, c2, hv2⟩ := gc_some hg' (by simp)
          exact ⟨⟨i + 1, _, ks ++ [((idx (2 ^ p) x q : Nat) : Int)], g2, c2, by omega, rfl, hv2, hg', ⟨hC.out.1.fresh (HT.out q hq).1 (fun P' c e => by rw [HO.out] at e; have := (List.append_inj' e rfl).2; simp at this; rw [← this]; exact hk), (HT.out q hq).2⟩, by rw [List.length_append, List.length_singleton]; omega⟩, by simp [intOf]; omega⟩
    · have hlt' : ¬ (i : Int) < (n : Int) := by omega
      obtain rfl : i = n := by omega
      go_wp2_with fail
      go_ret
      refine ⟨_, O, ks, rfl, hG.out, hC.out.1, ?_⟩
      have := hC.out.2
      rw [List.take_of_length_le (by rw [HN.out]; omega)] at this
      exact this
end Go.Proofs.Ythhoklgfgandpaa
