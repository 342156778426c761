/- PairBounds: WHAT THE LOOPS KEEP. Own work of the verifier. -/
import Derived.Test.YtdlaloakochfeaaB16
namespace Go.Proofs.Ytdlaloakochfeaa
open Go.RowKit Soft

/-- Of one group: k lists, c1 floats. -/
structure MidM (a c P N c1 k : Nat) : Prop where
  acc : Acc (a, c) ((P : Int) - (N : Int)) (P + N) (c1 + 2 * k)
  um : P + N ≤ c1 * UM
  none : k = 0 → a = 0 ∧ c = 0 ∧ P = 0 ∧ N = 0 ∧ c1 = 0
theorem midM_start : MidM 0 0 0 0 0 0 := ⟨acc_zero, by omega, fun _ => ⟨rfl, rfl, rfl, rfl, rfl⟩⟩
theorem MidM.step {a c P N c1 k : Nat} {L : List Nat} (h : MidM a c P N c1 k) (hL : AM L) (hb : c1 + k + L.length ≤ 2147483647) : MidM (mergeW (a, c) (ofW L)).1 (mergeW (a, c) (ofW L)).2 (P + sP L) (N + sN L) (c1 + L.length) (k + 1) := by
  obtain ⟨h1, h2⟩ := acc_step h.acc hL h.um (by omega) (by omega)
  exact ⟨acc_eq h1 rfl rfl (by omega), h2, fun e => by omega⟩
theorem MidM.near {a c P N c1 k : Nat} (h : MidM a c P N c1 k) (hb : c1 + k ≤ 2147483647) : nearB P N (fa a c) 2 (2 * k + c1) = true := by
  have hT := low_top (by omega) h.um
  have hm : 3 * (c1 + 2 * k) ≤ 9007199254740992 := by omega
  have := near_group h.acc hm hT (by
    rcases Nat.eq_zero_or_pos c1 with e | e
    · right
      have := h.um
      rw [e, Nat.zero_mul] at this
      omega
    · left
      rcases Nat.eq_zero_or_pos k with z | z
      · have := (h.none z).2.2.2.2; omega
      · omega)
  rw [Nat.add_comm (2 * k)]
  exact this
theorem MidM.ok {a c P N c1 k : Nat} (h : MidM a c P N c1 k) (hb : c1 + k ≤ 2147483647) : Ok a ∧ Ok c ∧ Ok (fa a c) := ⟨h.acc.s, h.acc.c, (acc_total h.acc (by omega) (low_top (by omega) h.um)).1⟩
/-- Of all groups up to one. -/
structure OutM (a c P N n l m : Nat) : Prop where
  acc : Acc (a, c) ((P : Int) - (N : Int)) (P + N) m
  um : P + N ≤ n * UM
  mm : m ≤ 2 * (n + 2 * l)
theorem outM_start : OutM 0 0 0 0 0 0 0 := ⟨acc_zero, by omega, by omega⟩
theorem OutM.step {a c P N n l m a1 c1 P1 N1 n1 k : Nat} (h : OutM a c P N n l m) (h1 : MidM a1 c1 P1 N1 n1 k) (hb : n + l + n1 + k ≤ 2147483647) : ∃ m', OutM (mergeW (a, c) (a1, c1)).1 (mergeW (a, c) (a1, c1)).2 (P + P1) (N + N1) (n + n1) (l + k) m' := by
  have hmm := h.mm
  rcases Nat.eq_zero_or_pos k with z | z
  · obtain ⟨rfl, rfl, rfl, rfl, rfl⟩ := h1.none z
    subst z
    rw [merge_zero h.acc (by omega) (low_top (by omega) h.um)]
    exact ⟨m, h.acc, h.um, hmm⟩
  · have hu : P + N + (P1 + N1) ≤ (n + n1) * UM := by
      have e1 := h.um
      have e2 := h1.um
      rw [Nat.add_mul]
      generalize n * UM = x at *
      generalize n1 * UM = y at *
      omega
    have h4 := acc_merge h.acc h1.acc (by omega) (by omega) (low_top (by omega) hu)
    refine ⟨m + (n1 + 2 * k) + 2, acc_eq h4 (by omega) (by omega) rfl, ?_, by omega⟩
    generalize (n + n1) * UM = x at *
    omega
theorem OutM.near {a c P N n l m : Nat} (h : OutM a c P N n l m) (hb : n + l ≤ 2147483647) : nearB P N (fa a c) 16 (n + 2 * l) = true := by
  have hT := low_top (by omega) h.um
  have h3 : 1 ≤ n + 2 * l ∨ P + N = 0 := by
    rcases Nat.eq_zero_or_pos n with e | e
    · right
      have := h.um
      rw [e, Nat.zero_mul] at this
      omega
    · left; omega
  have := near_whole (p := (a, c)) (M := n + 2 * l) h.acc h.mm (by omega) hT h3
  exact this
theorem OutM.ok {a c P N n l m : Nat} (h : OutM a c P N n l m) (hb : n + l ≤ 2147483647) : Ok a ∧ Ok c ∧ Ok (fa a c) := ⟨h.acc.s, h.acc.c, (acc_total h.acc (by have := h.mm; omega) (low_top (by omega) h.um)).1⟩
/-- What lies in memory: the whole sum, and a group's. -/
structure Mem (w : World) (gA g1 PA NA P1 N1 : Nat) (W : World) : Prop where
  b : Below w.heap.size w W
  lA : w.heap.size ≤ gA
  l1 : w.heap.size ≤ g1
  ne : g1 ≠ gA
  eA : ExAt W gA PA NA
  e1 : ExAt W g1 P1 N1
theorem Mem.below {w : World} {gA g1 PA NA P1 N1 : Nat} {W W' : World} (h : Mem w gA g1 PA NA P1 N1 W) (hb : Below W.heap.size W W') : Mem w gA g1 PA NA P1 N1 W' :=
  ⟨h.b.trans (hb.mono h.b.size), h.lA, h.l1, h.ne, h.eA.below hb, h.e1.below hb⟩
theorem Mem.put1 {w : World} {gA g1 PA NA P1 N1 P' N' : Nat} {W W' : World} (h : Mem w gA g1 PA NA P1 N1 W) (hx : Exc g1 W W') (he : ExAt W' g1 P' N') : Mem w gA g1 PA NA P' N' W' :=
  ⟨h.b.trans (hx.below h.l1 h.b.size), h.lA, h.l1, h.ne, h.e1.other h.eA h.ne.symm hx, he⟩
theorem Mem.putA {w : World} {gA g1 PA NA P1 N1 P' N' : Nat} {W W' : World} (h : Mem w gA g1 PA NA P1 N1 W) (hx : Exc gA W W') (he : ExAt W' gA P' N') : Mem w gA g1 P' N' P1 N1 W' :=
  ⟨h.b.trans (hx.below h.lA h.b.size), h.lA, h.l1, h.ne, he, h.eA.other h.e1 h.ne hx⟩
/-- How long the sums are, one float behind the other. -/
theorem long_ok {P N P1 N1 n c1 : Nat} {L : List Nat} (hu : P + N ≤ n * UM) (hu1 : P1 + N1 ≤ c1 * UM) (hL : AM L) (hb : n + c1 + L.length ≤ 2147483647) (j : Nat) :
    Sh (P1 + sP (L.take j)) ∧ Sh (N1 + sN (L.take j)) ∧ Sh (P + P1 + sP (L.take j)) ∧ Sh (N + N1 + sN (L.take j)) := by
  have hA : AM (L.take j) := fun x hx => hL x (List.mem_of_mem_take hx)
  have h3 := sum_le hA
  have h4 : (L.take j).length ≤ L.length := List.length_take_le' _ _
  have h5 : P + P1 + sP (L.take j) + (N + N1 + sN (L.take j)) ≤ (n + c1 + (L.take j).length) * UM := by
    rw [Nat.add_mul, Nat.add_mul]
    generalize n * UM = x at *
    generalize c1 * UM = y at *
    generalize (L.take j).length * UM = z at *
    omega
  have hs := sk_low (low_top (by omega) h5)
  generalize sP (L.take j) = s at *
  generalize sN (L.take j) = t at *
  exact ⟨(hs.le (by omega)).sh (by omega), (hs.le (by omega)).sh (by omega), (hs.le (by omega)).sh (by omega), (hs.le (by omega)).sh (by omega)⟩
theorem ok_fin {x : Nat} (hx : x < 18446744073709551616) (h : mayN x) : Sh (vw x).natAbs := by
  have h0 := may_abs hx h
  exact ((sk_low (low_top (c := 1) (by omega) (by omega))).le h0).sh (by omega)
theorem sk_mid {P N n : Nat} (hu : P + N ≤ n * UM) (hb : n ≤ 2147483647) : Sk 70 P ∧ Sk 70 N := by
  have hs := sk_low (low_top hb hu)
  exact ⟨hs.le (by omega), hs.le (by omega)⟩
theorem mem_b {w : World} {gA g1 PA NA P1 N1 : Nat} {W : World} (h : Hid (Mem w gA g1 PA NA P1 N1 W)) : Below w.heap.size w W := h.out.b
theorem mem_below {w : World} {gA g1 PA NA P1 N1 : Nat} {W W' : World} (h : Hid (Mem w gA g1 PA NA P1 N1 W)) (hb : Below W.heap.size W W') : Hid (Mem w gA g1 PA NA P1 N1 W') := h.out.below hb
theorem put1_mem {w : World} {gA g1 PA NA P1 N1 x : Nat} {W : World} (h : Mem w gA g1 PA NA P1 N1 W) (hx : x < 18446744073709551616) (hP : Sh P1) (hN : Sh N1) (hV : Sh (vw x).natAbs) :
    Calls Try.prog 10 #[.pointer (some ⟨g1, 0, none⟩), .int .u64 (x : Int)] W fun e w' => e = .returned (.tuple #[]) ∧ Hid (Mem w gA g1 PA NA (P1 + pv x) (N1 + nv x) w') := by
  refine (put_v g1 x hx W P1 N1 h.e1 hP hN hV).mono ?_
  rintro e w' ⟨rfl, h1, h2⟩
  exact ⟨rfl, h.put1 h2 h1⟩
theorem putA_mem {w : World} {gA g1 PA NA P1 N1 x : Nat} {W : World} (h : Mem w gA g1 PA NA P1 N1 W) (hx : x < 18446744073709551616) (hP : Sh PA) (hN : Sh NA) (hV : Sh (vw x).natAbs) :
    Calls Try.prog 10 #[.pointer (some ⟨gA, 0, none⟩), .int .u64 (x : Int)] W fun e w' => e = .returned (.tuple #[]) ∧ Hid (Mem w gA g1 (PA + pv x) (NA + nv x) P1 N1 w') := by
  refine (put_v gA x hx W PA NA h.eA hP hN hV).mono ?_
  rintro e w' ⟨rfl, h1, h2⟩
  exact ⟨rfl, h.putA h2 h1⟩
theorem Mem.eq {w : World} {gA g1 PA NA P1 N1 PA' NA' P1' N1' : Nat} {W : World} (h : Mem w gA g1 PA NA P1 N1 W) (h1 : PA = PA') (h2 : NA = NA') (h3 : P1 = P1') (h4 : N1 = N1') : Mem w gA g1 PA' NA' P1' N1' W := by subst h1 h2 h3 h4; exact h
theorem near_mid {w : World} {gA g1 PA NA P1 N1 a c n k : Nat} {M K : Int} (h : MidM a c P1 N1 n k) (hb : n + k ≤ 2147483647) (hM : ((2 * k + n : Nat) : Int) = M) (hK : ((2 : Nat) : Int) = K) (W : World) (hm : Hid (Mem w gA g1 PA NA P1 N1 W)) :
    Calls Try.prog 12 #[.pointer (some ⟨g1, 0, none⟩), .int .u64 (fa a c : Nat), .int .u32 K, .int .u64 M] W fun e w' => e = .returned (.bool true) ∧ Below W.heap.size W w' := by
  subst hM hK
  obtain ⟨o1, o2, o3⟩ := h.ok hb
  obtain ⟨s1, s2⟩ := sk_mid h.um (by omega)
  have := near_any g1 (fa a c) 2 (2 * k + n) o3.1.1 (by omega) (by omega) W P1 N1 70 hm.out.e1 (by omega) s1 s2 (sk_word o3)
  rw [h.near hb] at this
  exact this
theorem near_out {g P N a c n l m : Nat} {M K : Int} (h : OutM a c P N n l m) (hb : n + l ≤ 2147483647) (hM : ((n + 2 * l : Nat) : Int) = M) (hK : ((16 : Nat) : Int) = K) (W : World) (hm : Hid (ExAt W g P N)) :
    Calls Try.prog 12 #[.pointer (some ⟨g, 0, none⟩), .int .u64 (fa a c : Nat), .int .u32 K, .int .u64 M] W fun e w' => e = .returned (.bool true) ∧ Below W.heap.size W w' := by
  subst hM hK
  obtain ⟨o1, o2, o3⟩ := h.ok hb
  obtain ⟨s1, s2⟩ := sk_mid h.um (by omega)
  have := near_any g (fa a c) 16 (n + 2 * l) o3.1.1 (by omega) (by omega) W P N 70 hm.out (by omega) s1 s2 (sk_word o3)
  rw [h.near hb] at this
  exact this
theorem near_mem : True := trivial
theorem exat_below {g P N : Nat} {W W' : World} (h : Hid (ExAt W g P N)) (hb : Below W.heap.size W W') : Hid (ExAt W' g P N) := h.out.below hb
theorem cg_len (g : List (List Nat)) : g.length ≤ cg g := by
  induction g with
  | nil => simp [cg]
  | cons l g ih => simp only [List.length_cons, cg]; omega
theorem cG_mono (G : List (List (List Nat))) (k : Nat) : cG (G.take k) ≤ cG G := by
  induction G generalizing k with
  | nil => simp [cG]
  | cons l g ih =>
    cases k with
    | zero => simp [cG]
    | succ k => have := ih k; simp only [List.take_succ_cons, cG]; omega
end Go.Proofs.Ytdlaloakochfeaa
