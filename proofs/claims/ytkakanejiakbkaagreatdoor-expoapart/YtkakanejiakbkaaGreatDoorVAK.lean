/- THE PAGE: a text that grows; line. Own work of the verifier. -/
import Derived.Test.YtkakanejiakbkaaGreatDoorVAA
import Derived.Test.YtkakanejiakbkaaGreatDoorVAH
import Derived.Test.YtkakanejiakbkaaGreatDoorVAJ
import Derived.Lib.AppendStr
import Derived.Lib.BufferKept
import Derived.Handy
namespace Go.Proofs.YtkakanejiakbkaaGreatDoor
open Go.RowKit Me

/-- A page at block pb (behind all that was there in the world u), whose text is T; w0: the world in which a call began. -/
structure Pg (u : World) (pb : Nat) (w0 : World) (p : Int) (T : List UInt8) (W : World) : Prop where
  at_ : ∃ ao cap, W.heap[pb]? = some (.cells #[.int .i64 p, .slice ao T.length cap] 45) ∧ W.ownsRow u.heap.size 5 1 (.slice ao T.length cap) T.length (Lib.byteCells T)
  lo : u.heap.size ≤ pb
  st : Below u.heap.size u W
  ok : Lib.OthersKept 5 (some pb) w0 W
theorem Pg.sz {u : World} {pb : Nat} {w0 W : World} {p : Int} {T : List UInt8} (h : Pg u pb w0 p T W) : u.heap.size ≤ W.heap.size := h.st.size
theorem own_slice8 {W : World} {B : Nat} {e : TypeId} {v : Value} {n : Nat} {xs : List Value} (h : W.ownsRow B e 1 v n xs) : ∃ ao cap, v = .slice ao n cap := by
  rcases h.2 with ⟨k, k2⟩ | ⟨g, cap, cur, k, _⟩
  · exact ⟨none, 0, by rw [k, k2]⟩
  · exact ⟨_, cap, k⟩
theorem own_kind8 {W : World} {B : Nat} {e : TypeId} {v : Value} {n : Nat} {xs : List Value} (h : W.ownsRow B e 1 v n xs) : ∀ g, v.ownBlock = some g → ∃ c fz, W.heap[g]? = some (.cells c e fz) := by
  intro g hg
  rcases h.2 with ⟨rfl, _⟩ | ⟨g', cap, cur, rfl, _, hgg, _⟩
  · simp [Value.ownBlock] at hg
  · simp [Value.ownBlock] at hg
    subst hg
    exact ⟨cur, _, hgg⟩
theorem Pg.re {u : World} {pb : Nat} {w0 W : World} {p : Int} {T : List UInt8} (h : Pg u pb w0 p T W) : Pg u pb W p T W := ⟨h.at_, h.lo, h.st, Lib.OthersKept.refl _ _ _⟩
theorem Pg.then {u : World} {pb : Nat} {w0 W W1 : World} {p : Int} {T T1 : List UInt8} (h : Pg u pb w0 p T W) (k : Pg u pb W p T1 W1) : Pg u pb w0 p T1 W1 := ⟨k.at_, h.lo, k.st, h.ok.trans k.ok⟩
theorem Pg.lt {u : World} {pb : Nat} {w0 W : World} {p : Int} {T : List UInt8} (h : Pg u pb w0 p T W) : pb < W.heap.size := by
  obtain ⟨ao, cap, h1, _⟩ := h.at_
  exact (Array.getElem?_eq_some_iff.1 h1).1
theorem Pg.below {u : World} {pb : Nat} {w0 W W1 : World} {p : Int} {T : List UInt8} (h : Pg u pb w0 p T W) (hb : Below W.heap.size W W1) : Pg u pb w0 p T W1 := by
  obtain ⟨ao, cap, h1, h2⟩ := h.at_
  exact ⟨⟨ao, cap, (hb.block pb h.lt).trans h1, own_belG h2 hb⟩, h.lo, bt h.st hb, h.ok.below hb⟩
theorem Pg.alloc {u : World} {pb : Nat} {w0 W : World} {p : Int} {T : List UInt8} (h : Pg u pb w0 p T W) (o : Obj) : Pg u pb w0 p T (W.alloc o) := h.below (bel1 W o)
theorem Pg.cell {u : World} {pb : Nat} {w0 W : World} {p : Int} {T : List UInt8} (h : Pg u pb w0 p T W) : ∃ ao cap, W.cell? ⟨pb, 0, none⟩ = some (.int .i64 p) ∧ W.cell? ⟨pb, 1, none⟩ = some (.slice ao T.length cap) ∧ W.frozen? ⟨pb, 1, none⟩ = false ∧ W.ownsRow u.heap.size 5 1 (.slice ao T.length cap) T.length (Lib.byteCells T) := by
  obtain ⟨ao, cap, h1, h2⟩ := h.at_
  exact ⟨ao, cap, by simp [World.cell?, h1], by simp [World.cell?, h1], by simp [World.frozen?, h1], h2⟩
/-- A block that is neither the page's nor a row of bytes stays. -/
theorem Pg.cells {u : World} {pb g : Nat} {W W1 : World} {p : Int} {T : List UInt8} {cs : Array Value} {t : TypeId} (h : Pg u pb W p T W1) (hg : W.heap[g]? = some (.cells cs t)) (hk : g ≠ pb) (ht : t ≠ 5) : W1.heap[g]? = some (.cells cs t) :=
  h.ok g _ hg (fun e => hk (Option.some.inj e)) (fun c fz e => ht (by injection e))
/-- The text has grown, and is laid into the page. -/
theorem Pg.put {u : World} {pb : Nat} {w0 W W1 : World} {p : Int} {T S : List UInt8} {ao : Option Addr} {cap : Nat} {v : Value} (h : Pg u pb w0 p T W) (hc : W.cell? ⟨pb, 1, none⟩ = some (.slice ao T.length cap)) (hown : W1.ownsRow u.heap.size 5 1 v (T ++ S).length (Lib.byteCells (T ++ S)))
    (hg : W.grownBy W1 (Value.slice ao T.length cap).ownBlock) : W1.cell? ⟨pb, 1, none⟩ = some (.slice ao T.length cap) ∧ W1.frozen? ⟨pb, 1, none⟩ = false ∧ Pg u pb w0 p (T ++ S) (W1.setCell ⟨pb, 1, none⟩ v) := by
  obtain ⟨ao', cap', h1, h2⟩ := h.at_
  have e : W.cell? ⟨pb, 1, none⟩ = some (.slice ao' T.length cap') := by simp [World.cell?, h1]
  rw [hc] at e
  obtain ⟨rfl, rfl⟩ : ao = ao' ∧ cap = cap' := by simpa using e
  have hne := own_notype h2 h1 (by decide)
  have hb := (hg.block pb h.lt (fun e => hne e.symm)).trans h1
  obtain ⟨a1, c1, rfl⟩ := own_slice8 hown
  have hne1 := own_notype hown hb (by decide)
  have hK := h.ok.grown hg (own_kind8 h2)
  refine ⟨by simp [World.cell?, hb], by simp [World.frozen?, hb], ⟨⟨a1, c1, ?_, ?_⟩, h.lo, ?_, hK.setCell _ rfl _⟩⟩
  · have := Lib.heap_setCell_same (i := 1) hb (.slice a1 (T ++ S).length c1)
    simpa using this
  · refine ⟨hown.1, ?_⟩
    rcases hown.2 with k | ⟨g, c2, cur, k1, k2, k3, k4⟩
    · exact Or.inl k
    · refine Or.inr ⟨g, c2, cur, k1, k2, ?_, k4⟩
      rw [Below.heap_setCell _ _ _ _ (fun e => hne1 (by rw [k1]; simp only [Value.ownBlock]; exact congrArg some e))]
      exact k3
  · have hB1 : Below u.heap.size u W1 := ⟨hg.os.trans h.st.os, hg.tape.trans h.st.tape, hg.output.trans h.st.output, Nat.le_trans h.st.size hg.size, fun k hk => by
      rw [hg.block k (by have := h.sz; omega) ?_]
      · exact h.st.block k hk
      · intro e
        rcases own_atG h2 with q | ⟨g, q1, q2, _⟩
        · rw [q] at e; cases e
        · rw [q1] at e; cases e; omega⟩
    exact hB1.setCell (p := ⟨pb, 1, none⟩) h.lo _
/-- What is told of a text. -/
def fitB (T : List UInt8) : Bool := decide ((T.length : Int) ≤ 4194304)
/-- What a line is made of. -/
def lnT (S : List (List UInt8)) : List UInt8 := S.flatten ++ [10]
abbrev strV (l : List UInt8) : Value := .string ⟨l.toArray⟩
theorem info8 : (Tryz.prog.info? 5).map (fun i => (i.zero, i.size, i.bytes)) = some (some (.int .u8 0), 1, 1) := by kernel_rfl
theorem flat_step (T : List UInt8) (S : List (List UInt8)) (i : Nat) (h : i < S.length) : T ++ (S.take i).flatten ++ S[i] = T ++ (S.take (i + 1)).flatten ∧ (T ++ (S.take i).flatten).length + S[i].length ≤ T.length + S.flatten.length := by
  have e : (S.take (i + 1)).flatten = (S.take i).flatten ++ S[i] := by rw [List.take_succ_eq_append_getElem h, List.flatten_append]; simp only [List.flatten_cons, List.flatten_nil, List.append_nil]
  refine ⟨by rw [e]; simp, ?_⟩
  have e2 : S.flatten = (S.take (i + 1)).flatten ++ (S.drop (i + 1)).flatten := by rw [← List.flatten_append, List.take_append_drop]
  rw [e2, e]
  simp only [List.length_append]
  omega
set_option maxHeartbeats 4000000 in
set_option maxRecDepth 100000 in
theorem line_any (u : World) (pb sb cap : Nat) (p : Int) (S : List (List UInt8)) (T : List UInt8) (w : World) (h : Pg u pb w p T w) (hs : w.heap[sb]? = some (.cells (S.map strV).toArray 9)) (hl : S.length ≤ 100) (hT : T.length + (lnT S).length ≤ 140737488355328) :
    Calls Tryz.prog 12 #[.pointer (some ⟨pb, 0, none⟩), .slice (some ⟨sb, 0, none⟩) S.length cap] w fun e w' => e = .returned (.bool (fitB (T ++ lnT S))) ∧ Pg u pb w p (T ++ lnT S) w' := by
  obtain ⟨i0, hi0, hz0, hz1, hz2⟩ := info_parts info8
  have HK0 : Hid (Pg u pb w p (T ++ (S.take 0).flatten) w) := by rw [List.take_zero, List.flatten_nil, List.append_nil]; exact h
  have hsb : sb ≠ pb := by
    intro e
    obtain ⟨ao, cap, h1, _⟩ := h.at_
    rw [e, h1] at hs
    injection hs with hs
    injection hs with _ hs
    exact absurd hs (by decide)
  have HSb : Hid (∀ X W, Pg u pb w p X W → W.heap[sb]? = some (.cells (S.map strV).toArray 9)) := fun X W k => k.cells hs hsb (by decide)
  have hTl : T.length + S.flatten.length + 1 ≤ 140737488355328 := by simp [lnT] at hT; simp; omega
  have HTl := hid_of hTl
  obtain ⟨R, hR⟩ : ∃ R, R = T ++ lnT S := ⟨_, rfl⟩
  rw [← hR]
  have HR : Hid (R = T ++ S.flatten ++ [10]) := by show R = _; rw [hR, lnT, List.append_assoc]
  clear hT hTl hsb h hs hR
  go_enter Tryz.func12, Tryz.ntmps12
  go_wp2_with fail
  go_loopw [9] (fun a W => ∃ i : Nat, i ≤ S.length ∧ a = .int .i64 (i : Int) ∧ Hid (Pg u pb w p (T ++ (S.take i).flatten) W)) (fun a _ => S.length - (intOf a).toNat)
  case atStart => exact ⟨0, by omega, rfl, HK0⟩
  case round =>
    clear HK0
    obtain ⟨i, hi, rfl, HK⟩ := hrel
    obtain ⟨ao, c0, q0, q1, q2, q3⟩ := HK.out.cell
    by_cases hlt : i < S.length
    · have hlt' : (i : Int) < (S.length : Int) := by omega
      have hc : wr.cell? ⟨sb, i, none⟩ = some (strV S[i]) := by
        have := HSb.out _ _ HK.out
        simp [World.cell?, this, hlt]
      obtain ⟨hadd, h63⟩ := flat_step T S i hlt
      have HAdd := hid_of hadd
      have h64 : (T ++ (S.take i).flatten).length + S[i].length ≤ 140737488355328 := by have := HTl.out; omega
      have HQ3 := hid_of q3
      have HPg := hid_of HK.out
      clear hadd h63 q3 HK
      generalize T ++ (S.take i).flatten = X at q1 HQ3 h64 HPg HAdd
      generalize S[i] = s at hc h64 HAdd
      have hsz : (ByteArray.mk s.toArray).size = s.length := by show s.toArray.size = _; simp
      go_wp2_with (at_builtin; refine Lib.wpList_append_own_string _ rfl _ _ 27 9 rfl u.heap.size 5 i0 Tryz.underlying27 Tryz.underlying9 hi0 hz0 hz1 hz2 _ _ _ rfl HQ3.out ⟨s.toArray⟩ rfl ?c1 ?c2 ?c3 ?_)
      case c1 => rw [hsz]; unfold maxLen; omega
      case c2 => rw [hsz]; exact h64
      case c3 => exact HPg.out.sz
      intro v1 w1 o1 g1 n1
      replace o1 : w1.ownsRow u.heap.size 5 1 v1 (X ++ s).length (Lib.byteCells (X ++ s)) := by
        rw [List.length_append, Lib.byteCells_append]
        exact o1
      obtain ⟨a1, c1, rfl⟩ := own_slice8 o1
      obtain ⟨f1, f2, HP⟩ := HPg.out.put (S := s) q1 o1 g1
      have HP1 := hid_of HP
      clear n1 o1 g1 HP
      go_wp2_with fail
      refine ⟨⟨i + 1, by omega, by go_num, ?_⟩, by simp [intOf]; omega⟩
      rw [← HAdd.out]
      have := HP1.out
      simp only [List.length_append] at this
      exact this
    · have hlt' : ¬ (i : Int) < (S.length : Int) := by omega
      have hX : T ++ (S.take i).flatten = T ++ S.flatten := by rw [List.take_of_length_le (by omega)]
      have h64 : (T ++ S.flatten).length + 1 ≤ 140737488355328 := by have := HTl.out; simp only [List.length_append]; omega
      rw [hX] at q1 q3 HK
      have HPg := hid_of (HK.out.alloc (.cells #[.int .u8 10] 5))
      have HQ3 := hid_of (own_belG q3 (bel1 wr (.cells #[.int .u8 10] 5)))
      have hq1 : (wr.alloc (.cells #[.int .u8 10] 5)).cell? ⟨pb, 1, none⟩ = some (.slice ao (T ++ S.flatten).length c0) := by
        rw [(bel1 wr (.cells #[.int .u8 10] 5)).cell (p := ⟨pb, 1, none⟩) HK.out.lt]; exact q1
      clear HTl HSb hX q3 HK
      generalize T ++ S.flatten = X at *
      go_wp2_with (at_builtin; refine wpList_append_own _ rfl _ _ 27 rfl u.heap.size 5 i0 (.int .u8 0) 1 1 Tryz.underlying27 hi0 hz0 hz1 hz2 rfl (by decide) _ _ _ rfl HQ3.out ⟨wr.heap.size, 0, none⟩ 1 1 [.int .u8 10] rfl rfl ?c1 ?c2 ?c3 ?c4 ?c5 ?_)
      case c2 => rfl
      case c3 => unfold maxLen; omega
      case c5 => have := HPg.out.sz; simpa using this
      intro v1 w1 o1 g1 n1
      replace o1 : w1.ownsRow u.heap.size 5 1 v1 (X ++ [10]).length (Lib.byteCells (X ++ [10])) := by
        rw [List.length_append, Lib.byteCells_append]
        exact o1
      obtain ⟨a1, c1, rfl⟩ := own_slice8 o1
      obtain ⟨f1, f2, HP⟩ := HPg.out.put (S := [10]) hq1 o1 g1
      obtain ⟨a2, c2, d0, d1, _, _⟩ := HP.cell
      have HP1 := hid_of HP
      simp only [List.length_append, List.length_cons, List.length_nil] at d0 d1 f1 f2
      clear n1 o1 g1 HP
      go_wp2_with fail
      go_ret
      have hl : (R.length : Int) = (X.length : Int) + 1 := by rw [HR.out]; simp
      refine ⟨retB (by unfold fitB; rw [hl]), ?_⟩
      have := HP1.out
      simp only [List.length_append, List.length_cons, List.length_nil] at this
      rw [← HR.out] at this
      exact this
end Go.Proofs.YtkakanejiakbkaaGreatDoor
/- COUNTS, merged: the plain mathematics. Own work of the verifier. -/
namespace Go.Proofs.YtkakanejiakbkaaGreatDoor

/-- A count: an index and a number. -/
abbrev Cn := Int × Nat
/-- What all counts of an index come to. -/
def key : List Cn → Int → Nat
  | [], _ => 0
  | c :: L, k => (if c.1 = k then c.2 else 0) + key L k
theorem key_perm {A B : List Cn} (h : A.Perm B) (k : Int) : key A k = key B k := by
  induction h with
  | nil => rfl
  | cons c _ ih => simp only [key]; rw [ih]
  | swap c d l => simp only [key]; omega
  | trans _ _ h1 h2 => rw [h1, h2]
def Rise (L : List Cn) : Prop := L.Pairwise (fun a b => a.1 < b.1)
def Srt (L : List Cn) : Prop := L.Pairwise (fun a b => a.1 ≤ b.1)
theorem key_none {L : List Cn} {k : Int} (h : ∀ c ∈ L, c.1 ≠ k) : key L k = 0 := by
  induction L with
  | nil => rfl
  | cons c L ih =>
    simp only [key]
    rw [if_neg (h c (by simp)), ih (fun d hd => h d (by simp [hd]))]
theorem key_head {c : Cn} {L : List Cn} (h : Rise (c :: L)) : key (c :: L) c.1 = c.2 := by
  have hc := (List.pairwise_cons.1 h).1
  simp only [key, if_true]
  rw [key_none (fun d hd => by have := hc d hd; omega)]
  rfl
theorem key_less {L : List Cn} {c : Cn} (h : Rise (c :: L)) {k : Int} (hk : k < c.1) : key (c :: L) k = 0 := by
  have hc := (List.pairwise_cons.1 h).1
  refine key_none fun d hd => ?_
  rcases List.mem_cons.1 hd with rfl | hd
  · omega
  · have := hc d hd; omega
/-- Rising lists with the same sums are the same. -/
theorem rise_eq : ∀ (A B : List Cn), Rise A → Rise B → (∀ c ∈ A, c.2 ≠ 0) → (∀ c ∈ B, c.2 ≠ 0) → (∀ k, key A k = key B k) → A = B
  | [], [], _, _, _, _, _ => rfl
  | [], b :: B, _, hB, _, nB, h => by
    have := h b.1
    rw [key_head hB] at this
    exact absurd this.symm (nB b (by simp))
  | a :: A, [], hA, _, nA, _, h => by
    have := h a.1
    rw [key_head hA] at this
    exact absurd this (nA a (by simp))
  | a :: A, b :: B, hA, hB, nA, nB, h => by
    have e1 : a.1 = b.1 := by
      rcases Int.lt_trichotomy a.1 b.1 with c | c | c
      · have := h a.1
        rw [key_head hA, key_less hB c] at this
        exact absurd this (nA a (by simp))
      · exact c
      · have := h b.1
        rw [key_head hB, key_less hA c] at this
        exact absurd this.symm (nB b (by simp))
    have e2 : a.2 = b.2 := by
      have := h a.1
      rw [key_head hA, e1, key_head hB] at this
      exact this
    have e3 : A = B := rise_eq A B (List.pairwise_cons.1 hA).2 (List.pairwise_cons.1 hB).2 (fun c hc => nA c (by simp [hc])) (fun c hc => nB c (by simp [hc])) (fun k => by
      have := h k
      simp only [key] at this
      rw [e1, e2] at this
      omega)
    rw [e3, Prod.ext e1 e2]
/-- The document's merge of counts. -/
structure IsMerge (O L : List Cn) : Prop where
  rise : Rise O
  nz : ∀ c ∈ O, c.2 ≠ 0 ∧ c.2 < 18446744073709551616
  keys : ∀ k, key O k = key L k % 18446744073709551616
theorem IsMerge.uniq {A B L : List Cn} (h : IsMerge A L) (k : IsMerge B L) : A = B :=
  rise_eq A B h.rise k.rise (fun c hc => (h.nz c hc).1) (fun c hc => (k.nz c hc).1) (fun x => by rw [h.keys, k.keys])
theorem IsMerge.perm {A L M : List Cn} (h : IsMerge A L) (p : L.Perm M) : IsMerge A M := ⟨h.rise, h.nz, fun k => by rw [h.keys, key_perm p]⟩
/-- Whatever stands ahead of a place is less than what stands behind. -/
def Cut (S : List Cn) (i : Nat) : Prop := ∀ c ∈ S.take i, ∀ d ∈ S.drop i, c.1 < d.1
end Go.Proofs.YtkakanejiakbkaaGreatDoor
