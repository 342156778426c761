/- A RANGE OVER AN ITERATOR THAT HAS CELLS OF ITS OWN: the law. Own work of the verifier. -/
import Derived.RangeFuncNested
import Derived.RangeFuncBound
import Derived.RangeFuncCalls
import Derived.RangeFuncLeaves
import Derived.Shelf.Abstract
import Derived.Shelf.RegionOpen
import Derived.WalkKit
import Derived.OwnWalkIn
import Derived.TacticsInMore
import Derived.LoopNIn
import Derived.LoopIn
import Derived.Test.YtgkdggcpplmnaaaGreatZAB
import Derived.Test.YtgkdggcpplmnaaaGreatZAG
import Derived.Laws.Bits64
import Derived.Lib.Zigzag
import Derived.Sort.CutIn
namespace Go.Proofs.YtgkdggcpplmnaaaGreat
open Go.RowKit Go.Shelf

/-- Nothing has turned but blocks from n0 up to B. -/
structure Mid (n0 B : Nat) (W W' : World) : Prop where
  os : W'.os = W.os
  tape : W'.tape = W.tape
  output : W'.output = W.output
  size : W.heap.size ≤ W'.heap.size
  block : ∀ k, k < W.heap.size → ¬ (n0 ≤ k ∧ k < B) → W'.heap[k]? = W.heap[k]?
theorem Mid.refl (n0 B : Nat) (W : World) : Mid n0 B W W := ⟨rfl, rfl, rfl, Nat.le_refl _, fun _ _ _ => rfl⟩
theorem Mid.trans {n0 B : Nat} {a b c : World} (h : Mid n0 B a b) (k : Mid n0 B b c) : Mid n0 B a c :=
  ⟨k.os.trans h.os, k.tape.trans h.tape, k.output.trans h.output, Nat.le_trans h.size k.size, fun i hi hn => (k.block i (Nat.lt_of_lt_of_le hi h.size) hn).trans (h.block i hi hn)⟩
theorem Mid.of_below {n0 B : Nat} {a b : World} (h : Below a.heap.size a b) : Mid n0 B a b := ⟨h.os, h.tape, h.output, h.size, fun k hk _ => h.block k hk⟩
theorem Mid.below {n0 B : Nat} {a w w' : World} (h : Mid n0 B a w) (k : Below w.heap.size w w') : Mid n0 B a w' := h.trans (Mid.of_below k)
theorem Mid.drew {n0 B : Nat} {a w : World} (h : Mid n0 B a w) : Mid n0 B a w.drew := h.below (Below.refl _ _).drew
theorem Mid.setCell {n0 B : Nat} {a w : World} (h : Mid n0 B a w) {p : Addr} (hp : (n0 ≤ p.block ∧ p.block < B) ∨ a.heap.size ≤ p.block) (u : Value) : Mid n0 B a (w.setCell p u) :=
  ⟨h.os, h.tape, h.output, Nat.le_trans h.size (by simp [World.setCell]), fun k hk hn => (Below.heap_setCell _ _ _ _ (fun e => by subst e; rcases hp with hp | hp; exact hn hp; omega)).trans (h.block k hk hn)⟩
theorem Mid.toBelow {n0 B : Nat} {a b : World} (h : Mid n0 B a b) (ha : n0 ≤ a.heap.size) : Below n0 a b := ⟨h.os, h.tape, h.output, h.size, fun k hk => h.block k (by omega) (by omega)⟩

def midPost (n0 B : Nat) (I : Nat → World → Prop) (Ix : Code → Nat → World → Prop) (i : Nat) (W : World) : Exit → Act → World → Prop
  | .normal, _, W' => Mid n0 B W W' ∧ I i W'
  | .ret, _, W' => Mid n0 B W W' ∧ Ix .ret i W'
  | .exit id, _, W' => Mid n0 B W W' ∧ Ix (.exit id) i W'
  | .goto t, _, W' => Mid n0 B W W' ∧ Ix (.goto t) i W'
  | .panic _, _, _ => False
  | .outgrown, _, _ => False

/-- What an iterator does that calls yield N times, and may keep cells of its own: over whatever speaks of older memory alone. -/
def Seq (P : Program) (m : Nat) (gf : Nat) (lb : Array Value) (n0 B N : Nat) (encs : Nat → Array Value) (w : World) : Prop :=
  ∀ (l : Nat) (J Jx : Nat → World → Prop) (W : World), Below w.heap.size w W → w.heap.size ≤ W.heap.size →
    (∀ i A A', J i A → Below W.heap.size A A' → J i A') → (∀ i A A', Jx i A → Below W.heap.size A A' → Jx i A') →
    (∀ i W1, i < N → J i W1 → YieldAt Fence.wide (m - 1) P l (encs i) W1 fun e W' => (e = .returned (.bool true) ∧ Mid n0 B W1 W' ∧ J (i + 1) W') ∨ (e = .returned (.bool false) ∧ Jx (i + 1) W')) →
    J 0 W →
    CallsIn Fence.wide m P gf (#[.func (.yield l) #[] #[]] ++ lb) W fun e W' => (∃ v, e = .returned v) ∧ (J N W' ∨ ∃ i, i ≤ N ∧ Jx i W')

set_option maxHeartbeats 1000000 in
/-- THE LAW: a loop over such an iterator. -/
theorem wpIn_rangeFunc_seq {P : Program} {n : Nat} {g : Operand} {ps : Array Tmp} {assign body : Code} {Q : Exit → Act → World → Prop} {a : Act} {w : World}
    {gf : Nat} {lb : Array Value} (hg : a.eval g = .func (.func gf) #[] lb) (eg : ∀ args w, (callFunc gf args).run P w = .ok (.enter gf args) w)
    {n0 B N : Nat} {encs : Nat → Array Value} (hB : B ≤ w.heap.size) (hseq : Seq P (n - 1) gf lb n0 B N encs w) (hps : ∀ i, (encs i).size = ps.size)
    (I : Nat → World → Prop) (Ix : Code → Nat → World → Prop) (hI : ∀ i A A', I i A → Below w.heap.size A A' → I i A') (hIx : ∀ c i A A', Ix c i A → Below w.heap.size A A' → Ix c i A') (h0 : I 0 w)
    (hround : ∀ (l i : Nat) (W : World), i < N → w.heap.size ≤ l → l < W.heap.size → I i W →
      assign.wpIn (Fence.wide.inRound l) (n - 1 - 1) P (Exit.then (fun a1 W1 => Below W.heap.size W W1 ∧ ∀ W2, I i W2 → W2.heap.size = W1.heap.size → (∀ k, k ≠ l → W2.heap[k]? = W1.heap[k]?) →
        body.wpIn (Fence.wide.inRound l) (n - 1 - 1) P (midPost n0 B I Ix (i + 1) W2) a1 W2) (fun _ _ _ => False)) { tmps := (ps.zip (encs i)).foldl (fun t (p, v) => t.setIfInBounds p v) a.tmps, defers := [] } W)
    (hdone : ∀ (D : Nat) (W : World), w.heap.size ≤ D → I N W → W.heap[D]? = some (.deferred (some [])) → Q .normal { a with defers := { target := .collected D, args := #[] } :: a.defers } W)
    (hstop : ∀ (D : Nat) (c : Code) (i : Nat) (W : World), w.heap.size ≤ D → i ≤ N → Ix c i W → W.heap[D]? = some (.deferred (some [])) → c.wpIn Fence.wide n P Q { a with defers := { target := .collected D, args := #[] } :: a.defers } W) :
    (Code.rangeFunc g ps assign body).wpIn Fence.wide n P Q a w := by
  refine wpIn_rangeFunc ?_
  intro fn hfn
  show ∃ l mark w₁ d w₁' f args w₂, (Instr.enterLoop fn a.tmps ps assign body none).run P w = .ok (l, mark) w₁ ∧ _
  obtain ⟨rec, hrec⟩ : ∃ rec : LoopState → Option Code → Loop, rec = fun st pe => { state := st, pending := pe, fn, tmps := a.tmps, params := ps, assign, body, defers := w.heap.size } := ⟨_, rfl⟩
  obtain ⟨W1, hW1⟩ : ∃ W1, (w.alloc (.deferred (some []))).alloc (.loop (rec .ready none)) = W1 := ⟨_, rfl⟩
  have hs1 : W1.heap.size = w.heap.size + 1 + 1 := by rw [← hW1]; simp
  have hL1 : W1.heap[w.heap.size + 1]? = some (.loop (rec .ready none)) := by
    rw [← hW1]; have := World.alloc_heap_new (w.alloc (.deferred (some []))) (.loop (rec .ready none)); rwa [World.size_alloc] at this
  have hK1 : W1.heap[w.heap.size]? = some (.deferred (some [])) := by
    rw [← hW1]; exact (Below.heap_alloc _ _ _ (by simp)).trans (World.alloc_heap_new w _)
  have hb1 : Below w.heap.size w W1 := by
    rw [← hW1]; exact ((Below.refl _ w).alloc (Nat.le_refl _) _).alloc (by simp) _
  refine ⟨w.heap.size + 1, [{ target := .collected w.heap.size, args := #[] }], W1, { target := .fn (.func gf) lb, args := #[.func (.yield (w.heap.size + 1)) #[] #[]] }, W1, gf,
    #[.func (.yield (w.heap.size + 1)) #[] #[]] ++ lb, W1, ?_, ?_, ?_, ?_, ?_, ?_⟩
  · rw [← hW1, hrec]; exact run_enterLoop_outer _ _ _ _ _
  · simp only [resolve, hg]
    simp [go_sem]
  · intro f' _; exact True.intro
  · simp [invoke, go_sem, eg]
  · intro h; simp [Fence.wide] at h
  · have hput : ∀ (A : World) (o : Obj), w.heap.size + 1 < A.heap.size → Below w.heap.size A (A.putObj (w.heap.size + 1) o) := fun A o hlt =>
      (Below.refl _ _).grown (grownBy_putObj' A (w.heap.size + 1) o) (by omega) (fun k e => by cases e; omega)
    refine (hseq (w.heap.size + 1)
      (fun i W => I i W ∧ W.heap[w.heap.size + 1]? = some (.loop (rec .ready none)) ∧ W.heap[w.heap.size]? = some (.deferred (some [])))
      (fun i W => ∃ c, Ix c i W ∧ W.heap[w.heap.size + 1]? = some (.loop (rec .done (some c))) ∧ W.heap[w.heap.size]? = some (.deferred (some [])))
      W1 hb1 (by omega)
      (fun i A A' hs hb => ⟨hI i A A' hs.1 (hb.mono (by omega)), (hb.block _ (by omega)).trans hs.2.1, (hb.block _ (by omega)).trans hs.2.2⟩)
      (fun i A A' hs hb => by
        obtain ⟨c, hc, hl, hk⟩ := hs
        exact ⟨c, hIx c i A A' hc (hb.mono (by omega)), (hb.block _ (by omega)).trans hl, (hb.block _ (by omega)).trans hk⟩)
      ?_ ⟨hI 0 w W1 h0 hb1, hL1, hK1⟩).mono ?_
    · rintro i W hiN ⟨hi, hl, hk⟩
      have hlt : w.heap.size + 1 < W.heap.size := (Array.getElem?_eq_some_iff.1 hl).1
      have hy := run_yield (P := P) (args := encs i) hl (by rw [hrec]; exact hps i)
      rw [hrec] at hy
      refine ⟨fn, _, assign, body, hy, roundIn_of_wpIn hfn (wpIn_mono (hround (w.heap.size + 1) i W hiN (by omega) hlt hi) ?_)⟩
      clear hy
      rintro e a1 Wa hp
      cases e with
      | normal =>
        obtain ⟨hba, hbody⟩ := hp
        have hla := (hba.block _ hlt).trans hl
        have hka := (hba.block w.heap.size (by omega)).trans hk
        have hlta : w.heap.size + 1 < Wa.heap.size := (Array.getElem?_eq_some_iff.1 hla).1
        refine ⟨_, run_beginRound hla (by rw [hrec]), ?_⟩
        obtain ⟨W2, hW2⟩ : ∃ W2, Wa.putObj (w.heap.size + 1) (.loop { rec .ready none with state := .busy }) = W2 := ⟨_, rfl⟩
        rw [hW2]
        have hl2 : W2.heap[w.heap.size + 1]? = some (.loop { rec .ready none with state := .busy }) := by rw [← hW2]; exact World.putObj_heap_same hlta
        have hot : ∀ k, k ≠ w.heap.size + 1 → W2.heap[k]? = Wa.heap[k]? := fun k hk' => by rw [← hW2]; exact World.putObj_heap_other hk'
        have hs2 : W2.heap.size = Wa.heap.size := by rw [← hW2]; simp [World.putObj]
        have hb2 : Below w.heap.size Wa W2 := by rw [← hW2]; exact hput _ _ hlta
        have hi2 : I i W2 := hI i _ _ (hI i _ _ hi (hba.mono (by omega))) hb2
        refine wpIn_mono (hbody W2 hi2 hs2 hot) ?_
        have fin : ∀ (jump : Option Code) (W3 : World), Mid n0 B W2 W3 →
            (Instr.endRound (w.heap.size + 1) jump).run P W3 = .ok (.bool jump.isNone) (W3.putObj (w.heap.size + 1) (.loop (rec (if jump.isNone then .ready else .done) jump))) ∧
            w.heap.size + 1 < W3.heap.size ∧
            (W3.putObj (w.heap.size + 1) (.loop (rec (if jump.isNone then .ready else .done) jump))).heap[w.heap.size + 1]? = some (.loop (rec (if jump.isNone then .ready else .done) jump)) ∧
            (W3.putObj (w.heap.size + 1) (.loop (rec (if jump.isNone then .ready else .done) jump))).heap[w.heap.size]? = some (.deferred (some [])) := fun jump W3 hk3 => by
          have hl3 := (hk3.block _ (by omega) (by omega)).trans hl2
          have hk3' := (hk3.block w.heap.size (by omega) (by omega)).trans ((hot _ (by omega)).trans hka)
          have := run_endRound (P := P) jump hl3
          rw [hrec] at this ⊢
          exact ⟨this, (Array.getElem?_eq_some_iff.1 hl3).1, World.putObj_heap_same (Array.getElem?_eq_some_iff.1 hl3).1, (World.putObj_heap_other (by omega)).trans hk3'⟩
        rintro e a3 W3 hp
        cases e with
        | normal =>
          obtain ⟨hk3, hi3⟩ := hp
          obtain ⟨hr, hlt3, hl4, hk4⟩ := fin none W3 hk3
          refine ⟨_, _, hr, .inl ⟨rfl, ?_, hI _ _ _ hi3 (hput _ _ hlt3), hl4, hk4⟩⟩
          refine ⟨hk3.os.trans (hb2.os.trans hba.os), hk3.tape.trans (hb2.tape.trans hba.tape), hk3.output.trans (hb2.output.trans hba.output), ?_, fun k hkW hkn => ?_⟩
          · have e1 : (W3.putObj (w.heap.size + 1) (.loop (rec .ready none))).heap.size = W3.heap.size := by simp [World.putObj]
            exact Nat.le_trans (Nat.le_trans hba.size (by rw [← hs2]; exact hk3.size)) (Nat.le_of_eq e1.symm)
          · by_cases ek : k = w.heap.size + 1
            · subst ek; exact hl4.trans hl.symm
            · exact (World.putObj_heap_other ek).trans ((hk3.block k (by have := hba.size; omega) hkn).trans ((hot k ek).trans (hba.block k hkW)))
        | ret =>
          obtain ⟨hk3, hi3⟩ := hp
          obtain ⟨hr, hlt3, hl4, hk4⟩ := fin (some .ret) W3 hk3
          exact ⟨_, _, hr, .inr ⟨rfl, .ret, hIx _ _ _ _ hi3 (hput _ _ hlt3), hl4, hk4⟩⟩
        | exit id =>
          obtain ⟨hk3, hi3⟩ := hp
          obtain ⟨hr, hlt3, hl4, hk4⟩ := fin (some (.exit id)) W3 hk3
          exact ⟨_, _, hr, .inr ⟨rfl, .exit id, hIx _ _ _ _ hi3 (hput _ _ hlt3), hl4, hk4⟩⟩
        | goto t =>
          obtain ⟨hk3, hi3⟩ := hp
          obtain ⟨hr, hlt3, hl4, hk4⟩ := fin (some (.goto t)) W3 hk3
          exact ⟨_, _, hr, .inr ⟨rfl, .goto t, hIx _ _ _ _ hi3 (hput _ _ hlt3), hl4, hk4⟩⟩
        | panic ch => exact hp.elim
        | outgrown => exact hp.elim
      | ret => exact hp.elim
      | exit id => exact hp.elim
      | goto t => exact hp.elim
      | panic ch => exact hp.elim
      | outgrown => exact hp.elim
    · rintro e W2 ⟨⟨v, rfl⟩, (⟨hi, hl, hk⟩ | ⟨i, hiN, c, hi, hl, hk⟩)⟩
      · have hlt : w.heap.size + 1 < W2.heap.size := (Array.getElem?_eq_some_iff.1 hl).1
        exact ⟨none, _, by have := run_endLoop (P := P) hl (by rw [hrec]; simp); rw [hrec] at this; exact this, hdone _ _ (Nat.le_refl _) (hI _ _ _ hi (hput _ _ hlt)) ((World.putObj_heap_other (by omega)).trans hk)⟩
      · have hlt : w.heap.size + 1 < W2.heap.size := (Array.getElem?_eq_some_iff.1 hl).1
        exact ⟨some c, _, by have := run_endLoop (P := P) hl (by rw [hrec]; simp); rw [hrec] at this; exact this, hstop _ c i _ (Nat.le_refl _) hiN (hIx _ _ _ _ hi (hput _ _ hlt)) ((World.putObj_heap_other (by omega)).trans hk)⟩
end Go.Proofs.YtgkdggcpplmnaaaGreat
namespace Go.Proofs.YtgkdggcpplmnaaaGreat
open Go.RowKit


theorem of_words {n : Int} (h1 : -9223372036854775808 ≤ n) (h2 : n ≤ 9223372036854775807) : n / 9223372036854775808 = hiOf n ∧ IntKind.u64.wrap n = loOf n := by
  rw [IntKind.wrap_u64]; unfold hiOf loOf; constructor <;> omega
set_option maxHeartbeats 400000 in
theorem of_any (n : Int) (h1 : -9223372036854775808 ≤ n) (h2 : n ≤ 9223372036854775807) (w : World) :
    Calls Tryz.prog 20 #[.int .i64 n] w fun e w' => e = .returned (num n) ∧ Below w.heap.size w w' := by
  rw [num_of (of_words h1 h2)]
  go_enter Tryz.func20, Tryz.ntmps20
  go_wp2
  simp [bodyPost, results, Tryz.results20, go_sem]
  exact bel1 _ _
set_option maxHeartbeats 400000 in
theorem uns_any (n : Int) (h1 : 0 ≤ n) (h2 : n < 18446744073709551616) (w : World) :
    Calls Tryz.prog 109 #[.int .u64 n] w fun e w' => e = .returned (num n) ∧ Below w.heap.size w w' := by
  rw [num_of (h := 0) (l := n) (by unfold hiOf loOf; constructor <;> omega)]
  go_enter Tryz.func109, Tryz.ntmps109
  go_wp2
  simp [bodyPost, results, Tryz.results109, go_sem]
  exact bel1 _ _
end Go.Proofs.YtgkdggcpplmnaaaGreat
/- THE ITERATOR of the sums. Own work of the verifier. -/
namespace Go.Proofs.YtgkdggcpplmnaaaGreat
open Go.RowKit Go.Shelf

attribute [local go_sem] Oper.semAt_some

def sN (L : List Cn) (i : Nat) : Nat := sumN (L.take i)
/-- What a round is handed: the count, and the sum up to it. -/
def encS (L : List Cn) (i : Nat) : Array Value :=
  #[.agg #[.int .i64 (L.getD i (0, 0)).1, .int .u64 ((L.getD i (0, 0)).2 : Int)], .agg #[.int .i64 ((sN L (i + 1) / 18446744073709551616 : Nat) : Int), .int .u64 ((sN L (i + 1) % 18446744073709551616 : Nat) : Int)]]
theorem sN_le {L : List Cn} (hW : Wc L) (i : Nat) : sN L i ≤ 18446744073709551616 * i := by
  induction i with
  | zero => simp [sN, sumN]
  | succ i ih =>
    by_cases h : i < L.length
    · unfold sN at *; rw [sumN_take L i h]; have := (hW _ (List.getElem_mem h)).2.2; omega
    · unfold sN at *; rw [List.take_of_length_le (by omega)]; rw [List.take_of_length_le (by omega)] at ih; omega
theorem sN_succ {L : List Cn} {i : Nat} (h : i < L.length) : sN L (i + 1) = sN L i + (L.getD i (0, 0)).2 := by
  unfold sN; rw [sumN_take L i h]; simp [List.getD, h]

theorem cell_0 {W : World} {b : Nat} {u v : Value} {t : TypeId} (h : W.heap[b]? = some (.cells #[u, v] t (0, 0))) : W.cell? ⟨b, 0, none⟩ = some u := by simp [World.cell?, h]
theorem cell_1 {W : World} {b : Nat} {u v : Value} {t : TypeId} (h : W.heap[b]? = some (.cells #[u, v] t (0, 0))) : W.cell? ⟨b, 1, none⟩ = some v := by simp [World.cell?, h]
theorem froz_0 {W : World} {b : Nat} {u v : Value} {t : TypeId} (h : W.heap[b]? = some (.cells #[u, v] t (0, 0))) : W.frozen? ⟨b, 0, none⟩ = false := by simp [World.frozen?, h]
theorem froz_1 {W : World} {b : Nat} {u v : Value} {t : TypeId} (h : W.heap[b]? = some (.cells #[u, v] t (0, 0))) : W.frozen? ⟨b, 1, none⟩ = false := by simp [World.frozen?, h]
theorem keep_0 {W W' : World} {p : Addr} {v : Value} (hk : Below W.heap.size W W') (h : W.cell? p = some v) : W'.cell? p = some v := (hk.cell (lt_of_cell h)).trans h
theorem set_2 {W : World} {b : Nat} {u v : Value} {t : TypeId} (x y : Value) (h : W.heap[b]? = some (.cells #[u, v] t (0, 0))) : ((W.setCell ⟨b, 0, none⟩ x).setCell ⟨b, 1, none⟩ y).heap[b]? = some (.cells #[x, y] t (0, 0)) := by
  obtain ⟨hlt, hk⟩ := Array.getElem?_eq_some_iff.1 h
  have h1 : (W.setCell ⟨b, 0, none⟩ x).heap[b]? = some (.cells #[x, v] t (0, 0)) := by
    show (W.heap.modify b _)[b]? = _
    rw [Array.getElem?_eq_getElem (by rw [Array.size_modify]; exact hlt), Array.getElem_modify_self, hk]
    rfl
  obtain ⟨hlt1, hk1⟩ := Array.getElem?_eq_some_iff.1 h1
  show ((W.setCell ⟨b, 0, none⟩ x).heap.modify b _)[b]? = _
  rw [Array.getElem?_eq_getElem (by rw [Array.size_modify]; exact hlt1), Array.getElem_modify_self, hk1]
  rfl
theorem hid_keep {W W' : World} {b : Nat} {o : Obj} (hk : Below W.heap.size W W') (h : Hid (W.heap[b]? = some o)) : Hid (W'.heap[b]? = some o) := (hk.block b (Array.getElem?_eq_some_iff.1 h).1).trans h
set_option maxRecDepth 100000 in
set_option maxHeartbeats 4000000 in
theorem sums_seq (m Bs n0 B : Nat) (ao : Option Addr) (b o cap : Nat) (L : List Cn) (hao : L ≠ [] → ao = some ⟨b, o, none⟩) (hW : Wc L) (hl : L.length ≤ 8796093022208) (w : World) (hBs : w.cell? ⟨Bs, 0, none⟩ = some (.slice ao L.length cap)) (hB : B ≤ Bs) (hR : RowC w b o L) (hb : L ≠ [] → b < n0) (hn : n0 ≤ B) :
    Seq Tryz.prog m 108 #[.pointer (some ⟨Bs, 0, none⟩)] n0 B L.length (encS L) w := by
  intro l J Jx W hWb hsz hJ hJx hY h0
  have hBlt : Bs < w.heap.size := lt_of_cell hBs
  have hBs1 : W.cell? ⟨Bs, 0, none⟩ = some (.slice ao L.length cap) := (hWb.cell (p := ⟨Bs, 0, none⟩) hBlt).trans hBs
  have hR1 : RowC W b o L := hR.below hWb (fun k => by have := hb k; omega)
  have hal : Below W.heap.size W (W.alloc (.cells #[.int .i64 0, .int .u64 0] 39)) := (Below.refl _ _).alloc (Nat.le_refl _) _
  have hBs2 : (W.alloc (.cells #[.int .i64 0, .int .u64 0] 39)).cell? ⟨Bs, 0, none⟩ = some (.slice ao L.length cap) := (hal.cell (p := ⟨Bs, 0, none⟩) (by show Bs < _; omega)).trans hBs1
  have HL : Hid (∀ k, k ≠ 0 → k ≤ L.length → L ≠ []) := fun k h1 h2 e => by rw [e] at h2; simp at h2; omega
  have HN : Hid (n0 ≤ W.heap.size) := by unfold Hid; omega
  have HU : Hid (∀ (n : Nat) W, n < 18446744073709551616 → CallsIn Fence.wide (m - 1) Tryz.prog 109 #[.int .u64 (n : Int)] W fun e w' => e = .returned (.agg #[.int .i64 0, .int .u64 (n : Int)]) ∧ Below W.heap.size W w') := fun n W h => callsIn_wide.2 ((uns_any (n : Int) (by omega) (by omega) W).mono (by
    rintro e w' ⟨rfl, hb⟩
    refine ⟨?_, hb⟩
    unfold num hiOf loOf
    rw [show (n : Int) / 18446744073709551616 = 0 by omega, show (n : Int) % 18446744073709551616 = (n : Int) by omega]))
  have HA : Hid (∀ (s n : Nat) W, s + n < 18446744073709551616 * 17592186044416 → n < 18446744073709551616 → CallsIn Fence.wide (m - 1) Tryz.prog 77 #[.agg #[.int .i64 ((s / 18446744073709551616 : Nat) : Int), .int .u64 ((s % 18446744073709551616 : Nat) : Int)], .agg #[.int .i64 0, .int .u64 (n : Int)]] W fun e w' => e = .returned (.agg #[.int .i64 (((s + n) / 18446744073709551616 : Nat) : Int), .int .u64 (((s + n) % 18446744073709551616 : Nat) : Int)]) ∧ Below W.heap.size W w') := fun s n W h hn' => callsIn_wide.2 ((add_any _ _ _ _ ⟨by omega, by omega, by omega, by omega⟩ ⟨by omega, by omega, by omega, by omega⟩ W).mono (by
    rintro e w' ⟨rfl, hb⟩
    refine ⟨?_, hb⟩
    have ev : rnd (val ((s / 18446744073709551616 : Nat) : Int) ((s % 18446744073709551616 : Nat) : Int) + val 0 (n : Int)) = ((s + n : Nat) : Int) := by unfold rnd val; omega
    rw [ev]
    unfold num hiOf loOf
    rw [show ((s + n : Nat) : Int) / 18446744073709551616 = (((s + n) / 18446744073709551616 : Nat) : Int) by omega, show ((s + n : Nat) : Int) % 18446744073709551616 = (((s + n) % 18446744073709551616 : Nat) : Int) by omega]))
  refine callsIn_of_wp Tryz.func108 rfl trivial ?_ rfl
  simp only [Tryz.ntmps108, List.size_toArray, List.length_cons, List.length_nil, Nat.reduceAdd, Nat.reduceSub, Array.replicate_succ, Array.replicate_zero, List.push_toArray, List.append_toArray, List.nil_append, List.cons_append]
  have hnew : (W.alloc (.cells #[.int .i64 0, .int .u64 0] 39)).heap[W.heap.size]? = some (.cells #[.int .i64 0, .int .u64 0] 39 (0, 0)) := World.alloc_heap_new W _
  have HS0 : Hid (sN L 0 = 0) := rfl
  gi_wp2
  generalize hW1 : W.alloc (.cells #[.int .i64 0, .int .u64 0] 39) = W1 at *
  have HB1 : Hid (Below W.heap.size W W1) := hal
  have HC1 : Hid (W1.heap[W.heap.size]? = some (.cells #[.int .i64 0, .int .u64 0] 39 (0, 0))) := hnew
  clear hal hBs2 hW1 hnew
  gi_loopw [9] (fun i wr => ∃ k : Nat, k ≤ L.length ∧ i = .int .i64 k ∧ J k wr ∧ Hid (RowC wr b o L) ∧ Hid (wr.heap[W.heap.size]? = some (.cells #[.int .i64 ((sN L k / 18446744073709551616 : Nat) : Int), .int .u64 ((sN L k % 18446744073709551616 : Nat) : Int)] 39 (0, 0))))
    (fun i _ => L.length - (intOf i).toNat)
  case atStart => exact ⟨0, Nat.zero_le _, rfl, hJ _ _ _ h0 HB1.out, hR1.below HB1.out (fun k => by have := hb k; have := HN.out; omega), by rw [HS0.out]; exact HC1.out⟩
  case round =>
    obtain ⟨k, hk, rfl, hJs, HR, HC⟩ := hrel
    by_cases hlt : k < L.length
    · have hlt' : (k : Int) < (L.length : Int) := by omega
      obtain rfl := hao (by intro e; rw [e] at hlt; simp at hlt)
      obtain ⟨q1, q2⟩ := HR.out k hlt
      have hsz2 : W.heap.size < wr.heap.size := (Array.getElem?_eq_some_iff.1 HC.out).1
      have hx1 : L.getD k (0, 0) = L[k] := by simp [List.getD, hlt]
      have HSS : Hid (sN L (k + 1) = sN L k + (L.getD k (0, 0)).2) := sN_succ hlt
      have HE : Hid (∀ A : World, J k A → YieldAt Fence.wide (m - 1) Tryz.prog l (encS L k) A fun e W' => (e = .returned (.bool true) ∧ Mid n0 B A W' ∧ J (k + 1) W') ∨ (e = .returned (.bool false) ∧ Jx (k + 1) W')) := fun A hA => hY k A hlt hA
      have hy2 : L[k].2 < 18446744073709551616 := (hW _ (List.getElem_mem hlt)).2.2
      have hsk : sN L k ≤ 18446744073709551616 * 8796093022208 := by have := sN_le hW k; omega
      unfold encS at HE
      rw [HSS.out, hx1] at HE
      rw [hx1] at HSS
      have HBW : Hid (W.heap.size + 0 < wr.heap.size) := hsz2
      obtain ⟨x, y, hxy⟩ : ∃ x y, L[k] = (x, y) := ⟨_, _, rfl⟩
      rw [hxy] at q1 q2 HE HSS hy2
      clear hxy hx1 hY
      dsimp only at HE HSS hy2
      generalize sN L k = s at *
      have HCk : Hid (W.heap.size < wr.heap.size) := hsz2
      gi_upto_region 4 with fail
      have hbA : Below wr.heap.size wr (wr.alloc (.cells #[.int .i64 x, .int .u64 (y : Int)] 124)) := (Below.refl _ _).alloc (Nat.le_refl _) _
      have hnew : (wr.alloc (.cells #[.int .i64 x, .int .u64 (y : Int)] 124)).heap[wr.heap.size]? = some (.cells #[.int .i64 x, .int .u64 (y : Int)] 124 (0, 0)) := World.alloc_heap_new wr _
      have hsumA := (hbA.block W.heap.size hsz2).trans HC.out
      generalize hWA : wr.alloc (.cells #[.int .i64 x, .int .u64 (y : Int)] 124) = WA at *
      have HAB : Hid (Below wr.heap.size wr WA) := hbA
      clear hWA hbA q1 q2
      refine wpIn_wide.2 ?_
      have c1 : WA.cell? ⟨wr.heap.size, 1, none⟩ = some (.int .u64 (y : Int)) := cell_1 hnew
      have s0 : WA.cell? ⟨W.heap.size, 0, none⟩ = some (.int .i64 ((s / 18446744073709551616 : Nat) : Int)) := cell_0 hsumA
      have s1 : WA.cell? ⟨W.heap.size, 1, none⟩ = some (.int .u64 ((s % 18446744073709551616 : Nat) : Int)) := cell_1 hsumA
      have HU1 : Hid (∀ W, Calls Tryz.prog 109 #[.int .u64 (y : Int)] W fun e w' => e = .returned (.agg #[.int .i64 0, .int .u64 (y : Int)]) ∧ Below W.heap.size W w') := fun W => callsIn_wide.1 (HU.out y W hy2)
      have HA1 : Hid (∀ W, Calls Tryz.prog 77 #[.agg #[.int .i64 ((s / 18446744073709551616 : Nat) : Int), .int .u64 ((s % 18446744073709551616 : Nat) : Int)], .agg #[.int .i64 0, .int .u64 (y : Int)]] W fun e w' => e = .returned (.agg #[.int .i64 (((s + y) / 18446744073709551616 : Nat) : Int), .int .u64 (((s + y) % 18446744073709551616 : Nat) : Int)]) ∧ Below W.heap.size W w') := fun W => callsIn_wide.1 (HA.out s y W (by omega) hy2)
      have HNW : Hid _ := hnew
      have HSM : Hid _ := hsumA
      clear hnew hsumA HU HA
      generalize ((s / 18446744073709551616 : Nat) : Int) = sh at *
      generalize ((s % 18446744073709551616 : Nat) : Int) = sl at *
      generalize hth : (((s + y) / 18446744073709551616 : Nat) : Int) = th at *
      generalize htl : (((s + y) % 18446744073709551616 : Nat) : Int) = tl at *
      have HTH : Hid _ := hth
      have HTL : Hid _ := htl
      clear hth htl
      have D0 : Hid (WA.drew.cell? ⟨W.heap.size, 0, none⟩ = some (.int .i64 sh)) := s0
      have D1 : Hid (WA.drew.cell? ⟨W.heap.size, 1, none⟩ = some (.int .u64 sl)) := s1
      have DN : Hid (WA.drew.heap[wr.heap.size]? = some (.cells #[.int .i64 x, .int .u64 (y : Int)] 124 (0, 0))) := HNW.out
      have DS : Hid (WA.drew.heap[W.heap.size]? = some (.cells #[.int .i64 sh, .int .u64 sl] 39 (0, 0))) := HSM.out
      go_region_with (first
        | (go_at_call 109; with_reducible refine (HU1.out _).mono ?_; rintro e w1 ⟨rfl, hk1⟩; have N1 := hid_keep hk1 DN; have S1 := hid_keep hk1 DS; have s0' := keep_0 hk1 D0.out; have s1' := keep_0 hk1 D1.out)
        | (go_at_call 77; with_reducible refine (HA1.out _).mono ?_; rintro e w2 ⟨rfl, hk2⟩; have N2 := hid_keep hk2 N1; have S2 := hid_keep hk2 S1; have s0' := keep_0 hk2 s0'; have s1' := keep_0 hk2 s1'; have f0 := froz_0 S2.out; have f1 := froz_1 S2.out))
      all_goals
        have hN3 : ((w2.setCell ⟨W.heap.size, 0, none⟩ (.int .i64 th)).setCell ⟨W.heap.size, 1, none⟩ (.int .u64 tl)).heap[wr.heap.size]? = some (.cells #[.int .i64 x, .int .u64 (y : Int)] 124 (0, 0)) := (Below.heap_setCell _ _ _ _ (by have := HCk.out; show wr.heap.size ≠ W.heap.size; omega)).trans ((Below.heap_setCell _ _ _ _ (by have := HCk.out; show wr.heap.size ≠ W.heap.size; omega)).trans N2.out)
        have hS3 := set_2 (.int .i64 th) (.int .u64 tl) S2.out
        have hB3 : Below W.heap.size wr ((w2.setCell ⟨W.heap.size, 0, none⟩ (.int .i64 th)).setCell ⟨W.heap.size, 1, none⟩ (.int .u64 tl)) := (((((HAB.out.mono (Nat.le_of_lt HCk.out)).drew).trans (hk1.mono (Nat.le_trans (Nat.le_of_lt HCk.out) HAB.out.size))).trans (hk2.mono (Nat.le_trans (Nat.le_of_lt HCk.out) (Nat.le_trans HAB.out.size hk1.size)))).setCell (p := ⟨W.heap.size, 0, none⟩) (Nat.le_refl _) _).setCell (p := ⟨W.heap.size, 1, none⟩) (Nat.le_refl _) _
        clear hk1 hk2 N2 S2 s0' s1' f0 f1 N1 S1 D0 D1 DN DS
        generalize ((w2.setCell ⟨W.heap.size, 0, none⟩ (.int .i64 th)).setCell ⟨W.heap.size, 1, none⟩ (.int .u64 tl)) = W3 at *
        obtain ⟨fn, tmps, assign, body, hy, hRd⟩ := HE.out W3 (hJ _ _ _ hJs hB3)
        have c0' := cell_0 hN3
        have c1' := cell_1 hN3
        have t0' := cell_0 hS3
        have t1' := cell_1 hS3
        have HB3 : Hid _ := hB3
        have HS3 : Hid _ := hS3
        clear hB3 hS3 hN3
        gi_wp2
        refine ⟨fun h => by simp [Fence.wide] at h, hRd.mono ?_⟩
        rintro e W4 (⟨rfl, hM, hJ4⟩ | ⟨rfl, hJx4⟩)
        · have HM4 : Hid (Mid n0 B W3 W4) := hM
          clear hM
          gi_wp2
          go_roundw
          case rel =>
            have hlt3 : W.heap.size < W3.heap.size := (Array.getElem?_eq_some_iff.1 HS3.out).1
            refine ⟨k + 1, by omega, by simp, hJ4, (HR.out.below HB3.out (fun hL => by have := hb hL; have := HN.out; omega)).below (HM4.out.toBelow (by have := HN.out; omega)) hb, ?_⟩
            rw [HSS.out, HTH.out, HTL.out]
            exact (HM4.out.block _ hlt3 (by omega)).trans HS3.out
          case measure => simp [intOf]; omega
        · gi_wp2
          refine bodyPost_ret (results_none rfl _ _ _) rfl ?_
          exact ⟨⟨_, rfl⟩, .inr ⟨k + 1, by omega, hJx4⟩⟩
    · obtain rfl : k = L.length := by omega
      have hlt' : ¬ (L.length : Int) < (L.length : Int) := by omega
      gi_wp2
      go_end0
      exact ⟨⟨_, rfl⟩, .inl hJs⟩
end Go.Proofs.YtgkdggcpplmnaaaGreat
