/- RULES: RulesSames' walk (printed by gen_vv.py). Own work of the verifier. -/
import Derived.Test.YtmmkboldkaehgaaGreatDoorSBI
namespace Go.Proofs.YtmmkboldkaehgaaGreatDoor.Ru
open Go.RowKit Go.Sort Me

/-- A rule's eight cells in a block. -/
abbrev c8 (g : Nat) (k : Int) (x : Nat) (nm : List UInt8) (lv : Value) (w n d : Int) (av : Value) (W : World) : Prop :=
  W.cell? ⟨g, 0, none⟩ = some (.int .i64 k) ∧ W.cell? ⟨g, 1, none⟩ = some (.float .f64 x) ∧ W.cell? ⟨g, 2, none⟩ = some (.string ⟨nm.toArray⟩) ∧ W.cell? ⟨g, 3, none⟩ = some lv ∧ W.cell? ⟨g, 4, none⟩ = some (.int .i64 w) ∧ W.cell? ⟨g, 5, none⟩ = some (.int .i64 n) ∧ W.cell? ⟨g, 6, none⟩ = some (.int .i64 d) ∧ W.cell? ⟨g, 7, none⟩ = some av
/-- Two rules in memory of their own, beside the boxes of those that were handed in. -/
structure KS (w : World) (tx ty : RT) (gx gy : Nat) (cx cy : Array Value) (b5 b6 : Nat) (c5 c6 : Array Value) (W : World) : Prop where
  b : Below w.heap.size w W
  g1 : W.heap[gx]? = some (.cells cx 26)
  g2 : W.heap[gy]? = some (.cells cy 26)
  h5 : W.heap[b5]? = some (.cells c5 26)
  h6 : W.heap[b6]? = some (.cells c6 26)
  r5 : RV 0 W tx (.agg c5)
  r6 : RV 0 W ty (.agg c6)
theorem hk_at {W W1 : World} {g : Nat} {c : Array Value} {t : TypeId} (h : W.heap[g]? = some (.cells c t)) (hb : Below W.heap.size W W1) : W1.heap[g]? = some (.cells c t) := (hb.block g (Array.getElem?_eq_some_iff.1 h).1).trans h
theorem two_n (w : World) (o1 o2 : Obj) : ((w.alloc o1).alloc o2).heap[w.heap.size]? = some o1 ∧ ((w.alloc o1).alloc o2).heap[w.heap.size + 1]? = some o2 := ⟨heap_alloc2_old w o1 o2, by have := new_1 (w.alloc o1) o2; rwa [show (w.alloc o1).heap.size = w.heap.size + 1 by simp] at this⟩
theorem two_d (w : World) (o1 o2 : Obj) : ((w.alloc o1).alloc o2).drew.heap[w.heap.size]? = some o1 ∧ ((w.alloc o1).alloc o2).drew.heap[w.heap.size + 1]? = some o2 := two_n w o1 o2
theorem new_d (w : World) (o : Obj) : (w.alloc o).drew.heap[w.heap.size]? = some o := new_1 w o
theorem LbV.sep {B : Nat} {W W1 : World} {v : Value} {L : List La.Lb} (h : LbV B W v L) (hk : ∀ k, B ≤ k → k < W.heap.size → W1.heap[k]? = W.heap[k]?) : LbV B W1 v L := by
  obtain ⟨ao, b, o, cap, rfl, h1, h2, h3, h4⟩ := h
  refine ⟨ao, b, o, cap, rfl, h1, h2, h3, ?_⟩
  by_cases k : L = []
  · subst k; exact fun i hi => by simp at hi
  · intro i hi
    obtain ⟨q1, q2⟩ := h4 i hi
    have hb := hk b (h1 k).2 (La.lt_of_cell q1)
    exact ⟨(World.cell?_of_block (w := W) (a := ⟨b, o + i * 2, none⟩) hb).trans q1, (World.cell?_of_block (w := W) (a := ⟨b, o + i * 2 + 1, none⟩) hb).trans q2⟩
theorem RV.sep {B : Nat} {W W1 : World} {t : RT} {v : Value} (h : RV B W t v) (hk : ∀ k, B ≤ k → k < W.heap.size → W1.heap[k]? = W.heap[k]?) : RV B W1 t v :=
  RV.map (Nat.le_refl _) (fun b o _ hb hu => (World.cell?_of_block (w := W) (a := ⟨b, o, none⟩) (hk b hb (La.lt_of_cell hu))).trans hu) (fun _ _ hl => hl.sep hk) t v h
/-- Two rules made one behind the other; their boxes are written then. -/
structure KC (w W3 w4 w5 : World) (tx ty : RT) (gx gy : Nat) (cx cy : Array Value) (n m : Nat) (c4 c5 : Array Value) : Prop where
  b3 : Below w.heap.size w W3
  g1 : W3.heap[gx]? = some (.cells cx 26)
  g2 : W3.heap[gy]? = some (.cells cy 26)
  v4 : RV (W3.heap.size + n) w4 tx (.agg c4)
  p4 : W3.heap.size + n ≤ w4.heap.size
  v5 : RV (w4.heap.size + m) w5 ty (.agg c5)
  p5 : w4.heap.size + m ≤ w5.heap.size
  b4 : Below W3.heap.size W3 w4
  b45 : Below w4.heap.size w4 w5
/-- Where a box may lie. -/
def KQp (W3 w4 w5 : World) (n m p : Nat) : Prop := (W3.heap.size ≤ p ∧ p < W3.heap.size + n) ∨ (w4.heap.size ≤ p ∧ p < w4.heap.size + m) ∨ w5.heap.size ≤ p
theorem KC.of {w W3 w4 w5 : World} {tx ty : RT} {gx gy : Nat} {cx cy : Array Value} {n m : Nat} {c4 c5 : Array Value} {F : World} {p q : Nat} (h : KC w W3 w4 w5 tx ty gx gy cx cy n m c4 c5) (hF : ∀ k, k < w5.heap.size → k ≠ p → k ≠ q → F.heap[k]? = w5.heap[k]?) (hB : Below W3.heap.size W3 F) (hp : KQp W3 w4 w5 n m p) (hq : KQp W3 w4 w5 n m q)
    (e5 : F.heap[p]? = some (.cells c4 26)) (e6 : F.heap[q]? = some (.cells c5 26)) : KS w tx ty gx gy cx cy p q c4 c5 F := by
  have h1 := h.p4
  have h2 := h.p5
  unfold KQp at hp hq
  refine ⟨bt h.b3 hB, hk_at h.g1 hB, hk_at h.g2 hB, e5, e6, (h.v4.sep fun k k1 k2 => ?_).mono (Nat.zero_le _), (h.v5.sep fun k k1 k2 => ?_).mono (Nat.zero_le _)⟩
  · exact (hF k (by omega) (by omega) (by omega)).trans (h.b45.block k k2)
  · exact hF k k2 (by omega) (by omega)
theorem KC.fA {w W3 w4 w5 : World} {tx ty : RT} {gx gy : Nat} {cx cy : Array Value} {n m : Nat} {k4 : Int} {x4 : Nat} {nm4 : List UInt8} {lv4 : Value} {wi4 n4 d4 : Int} {av4 : Value} {k5 : Int} {x5 : Nat} {nm5 : List UInt8} {lv5 : Value} {wi5 n5 d5 : Int} {av5 : Value} (h : KC w W3 w4 w5 tx ty gx gy cx cy n m (rc k4 x4 nm4 lv4 wi4 n4 d4 av4) (rc k5 x5 nm5 lv5 wi5 n5 d5 av5)) : KS w tx ty gx gy cx cy w5.heap.size (w5.heap.size + 1) (rc k4 x4 nm4 lv4 wi4 n4 d4 av4) (rc k5 x5 nm5 lv5 wi5 n5 d5 av5) ((w5.alloc (.cells (rc k4 x4 nm4 lv4 wi4 n4 d4 av4) 26)).alloc (.cells (rc k5 x5 nm5 lv5 wi5 n5 d5 av5) 26)) :=
  h.of (fun k hk _ _ => (La.bel2 w5 _ _).block k hk) (bt (bt h.b4 h.b45) (La.bel2 w5 _ _)) (.inr (.inr (Nat.le_refl _))) (.inr (.inr (Nat.le_succ _))) (two_n w5 _ _).1 (two_n w5 _ _).2
theorem KC.fB {w W3 w4 w5 : World} {tx ty : RT} {gx gy : Nat} {cx cy : Array Value} {n m : Nat} {k4 : Int} {x4 : Nat} {nm4 : List UInt8} {lv4 : Value} {wi4 n4 d4 : Int} {av4 : Value} {k5 : Int} {x5 : Nat} {nm5 : List UInt8} {lv5 : Value} {wi5 n5 d5 : Int} {av5 : Value} (h : KC w W3 w4 w5 tx ty gx gy cx cy n m (rc k4 x4 nm4 lv4 wi4 n4 d4 av4) (rc k5 x5 nm5 lv5 wi5 n5 d5 av5)) : KS w tx ty gx gy cx cy (w5.heap.size + 1) w5.heap.size (rc k4 x4 nm4 lv4 wi4 n4 d4 av4) (rc k5 x5 nm5 lv5 wi5 n5 d5 av5) ((w5.alloc (.cells (rc k5 x5 nm5 lv5 wi5 n5 d5 av5) 26)).alloc (.cells (rc k4 x4 nm4 lv4 wi4 n4 d4 av4) 26)) :=
  h.of (fun k hk _ _ => (La.bel2 w5 _ _).block k hk) (bt (bt h.b4 h.b45) (La.bel2 w5 _ _)) (.inr (.inr (Nat.le_succ _))) (.inr (.inr (Nat.le_refl _))) (two_n w5 _ _).2 (two_n w5 _ _).1
theorem put8_sz (W : World) (g : Nat) (a0 a1 a2 a3 a4 a5 a6 a7 : Value) : (put8 W g a0 a1 a2 a3 a4 a5 a6 a7).heap.size = W.heap.size := by unfold put8; simp
theorem KC.lo {w W3 w4 w5 : World} {tx ty : RT} {gx gy : Nat} {cx cy : Array Value} {n m : Nat} {c4 c5 : Array Value} {p : Nat} (h : KC w W3 w4 w5 tx ty gx gy cx cy n m c4 c5) (hp : KQp W3 w4 w5 n m p) : W3.heap.size ≤ p := by
  have h1 := h.p4
  have h2 := h.p5
  unfold KQp at hp
  omega
theorem KC.fC {w W3 w4 w5 : World} {tx ty : RT} {gx gy : Nat} {cx cy : Array Value} {n m : Nat} {k4 : Int} {x4 : Nat} {nm4 : List UInt8} {lv4 : Value} {wi4 n4 d4 : Int} {av4 : Value} {k5 : Int} {x5 : Nat} {nm5 : List UInt8} {lv5 : Value} {wi5 n5 d5 : Int} {av5 : Value} {p : Nat} (h : KC w W3 w4 w5 tx ty gx gy cx cy n m (rc k4 x4 nm4 lv4 wi4 n4 d4 av4) (rc k5 x5 nm5 lv5 wi5 n5 d5 av5)) (hz : w5.heap[p]? = some (.cells (rc 0 0 [] (.slice none 0 0) 0 0 0 (.slice none 0 0)) 26)) (hp : KQp W3 w4 w5 n m p) : KS w tx ty gx gy cx cy p w5.heap.size (rc k4 x4 nm4 lv4 wi4 n4 d4 av4) (rc k5 x5 nm5 lv5 wi5 n5 d5 av5) ((put8 w5 p (.int .i64 k4) (.float .f64 x4) (.string ⟨nm4.toArray⟩) lv4 (.int .i64 wi4) (.int .i64 n4) (.int .i64 d4) av4).alloc (.cells (rc k5 x5 nm5 lv5 wi5 n5 d5 av5) 26)) := by
  have hx := put8_one w5 p (.int .i64 k4) (.float .f64 x4) (.string ⟨nm4.toArray⟩) lv4 (.int .i64 wi4) (.int .i64 n4) (.int .i64 d4) av4
  have hs := put8_sz w5 p (.int .i64 k4) (.float .f64 x4) (.string ⟨nm4.toArray⟩) lv4 (.int .i64 wi4) (.int .i64 n4) (.int .i64 d4) av4
  have hh := put8_heap hz (.int .i64 k4) (.float .f64 x4) (.string ⟨nm4.toArray⟩) lv4 (.int .i64 wi4) (.int .i64 n4) (.int .i64 d4) av4
  have hn := new_1 (put8 w5 p (.int .i64 k4) (.float .f64 x4) (.string ⟨nm4.toArray⟩) lv4 (.int .i64 wi4) (.int .i64 n4) (.int .i64 d4) av4) (.cells (rc k5 x5 nm5 lv5 wi5 n5 d5 av5) 26)
  rw [hs] at hn
  have hl := h.lo hp
  have h5 := (bt h.b4 h.b45).size
  exact h.of (fun k hk k1 _ => ((bel1 _ _).block k (by rw [hs]; exact hk)).trans (hx.block k hk k1)) (bt ((bt h.b4 h.b45).trans (hx.below hl h5)) (bel1 _ _)) hp (.inr (.inr (Nat.le_refl _))) (hk_at hh (bel1 _ _)) hn
theorem KC.fD {w W3 w4 w5 : World} {tx ty : RT} {gx gy : Nat} {cx cy : Array Value} {n m : Nat} {k4 : Int} {x4 : Nat} {nm4 : List UInt8} {lv4 : Value} {wi4 n4 d4 : Int} {av4 : Value} {k5 : Int} {x5 : Nat} {nm5 : List UInt8} {lv5 : Value} {wi5 n5 d5 : Int} {av5 : Value} {q : Nat} (h : KC w W3 w4 w5 tx ty gx gy cx cy n m (rc k4 x4 nm4 lv4 wi4 n4 d4 av4) (rc k5 x5 nm5 lv5 wi5 n5 d5 av5)) (hz : w5.heap[q]? = some (.cells (rc 0 0 [] (.slice none 0 0) 0 0 0 (.slice none 0 0)) 26)) (hq : KQp W3 w4 w5 n m q) : KS w tx ty gx gy cx cy w5.heap.size q (rc k4 x4 nm4 lv4 wi4 n4 d4 av4) (rc k5 x5 nm5 lv5 wi5 n5 d5 av5) ((put8 w5 q (.int .i64 k5) (.float .f64 x5) (.string ⟨nm5.toArray⟩) lv5 (.int .i64 wi5) (.int .i64 n5) (.int .i64 d5) av5).alloc (.cells (rc k4 x4 nm4 lv4 wi4 n4 d4 av4) 26)) := by
  have hx := put8_one w5 q (.int .i64 k5) (.float .f64 x5) (.string ⟨nm5.toArray⟩) lv5 (.int .i64 wi5) (.int .i64 n5) (.int .i64 d5) av5
  have hs := put8_sz w5 q (.int .i64 k5) (.float .f64 x5) (.string ⟨nm5.toArray⟩) lv5 (.int .i64 wi5) (.int .i64 n5) (.int .i64 d5) av5
  have hh := put8_heap hz (.int .i64 k5) (.float .f64 x5) (.string ⟨nm5.toArray⟩) lv5 (.int .i64 wi5) (.int .i64 n5) (.int .i64 d5) av5
  have hn := new_1 (put8 w5 q (.int .i64 k5) (.float .f64 x5) (.string ⟨nm5.toArray⟩) lv5 (.int .i64 wi5) (.int .i64 n5) (.int .i64 d5) av5) (.cells (rc k4 x4 nm4 lv4 wi4 n4 d4 av4) 26)
  rw [hs] at hn
  have hl := h.lo hq
  have h5 := (bt h.b4 h.b45).size
  exact h.of (fun k hk _ k1 => ((bel1 _ _).block k (by rw [hs]; exact hk)).trans (hx.block k hk k1)) (bt ((bt h.b4 h.b45).trans (hx.below hl h5)) (bel1 _ _)) (.inr (.inr (Nat.le_refl _))) hq hn (hk_at hh (bel1 _ _))
theorem KC.fE {w W3 w4 w5 : World} {tx ty : RT} {gx gy : Nat} {cx cy : Array Value} {n m : Nat} {k4 : Int} {x4 : Nat} {nm4 : List UInt8} {lv4 : Value} {wi4 n4 d4 : Int} {av4 : Value} {k5 : Int} {x5 : Nat} {nm5 : List UInt8} {lv5 : Value} {wi5 n5 d5 : Int} {av5 : Value} {p q : Nat} (h : KC w W3 w4 w5 tx ty gx gy cx cy n m (rc k4 x4 nm4 lv4 wi4 n4 d4 av4) (rc k5 x5 nm5 lv5 wi5 n5 d5 av5)) (hz : w5.heap[p]? = some (.cells (rc 0 0 [] (.slice none 0 0) 0 0 0 (.slice none 0 0)) 26)) (hy : w5.heap[q]? = some (.cells (rc 0 0 [] (.slice none 0 0) 0 0 0 (.slice none 0 0)) 26)) (hp : KQp W3 w4 w5 n m p) (hq : KQp W3 w4 w5 n m q) (hne : p ≠ q) : KS w tx ty gx gy cx cy p q (rc k4 x4 nm4 lv4 wi4 n4 d4 av4) (rc k5 x5 nm5 lv5 wi5 n5 d5 av5) (put8 (put8 w5 p (.int .i64 k4) (.float .f64 x4) (.string ⟨nm4.toArray⟩) lv4 (.int .i64 wi4) (.int .i64 n4) (.int .i64 d4) av4) q (.int .i64 k5) (.float .f64 x5) (.string ⟨nm5.toArray⟩) lv5 (.int .i64 wi5) (.int .i64 n5) (.int .i64 d5) av5) := by
  have hx := put8_one w5 p (.int .i64 k4) (.float .f64 x4) (.string ⟨nm4.toArray⟩) lv4 (.int .i64 wi4) (.int .i64 n4) (.int .i64 d4) av4
  have hs := put8_sz w5 p (.int .i64 k4) (.float .f64 x4) (.string ⟨nm4.toArray⟩) lv4 (.int .i64 wi4) (.int .i64 n4) (.int .i64 d4) av4
  have hh := put8_heap hz (.int .i64 k4) (.float .f64 x4) (.string ⟨nm4.toArray⟩) lv4 (.int .i64 wi4) (.int .i64 n4) (.int .i64 d4) av4
  have hl := h.lo hp
  have hl2 := h.lo hq
  have h5 := (bt h.b4 h.b45).size
  have l1 := (Array.getElem?_eq_some_iff.1 hz).1
  have l2 := (Array.getElem?_eq_some_iff.1 hy).1
  have hy' := (hx.block q l2 (Ne.symm hne)).trans hy
  have hx2 := put8_one (put8 w5 p (.int .i64 k4) (.float .f64 x4) (.string ⟨nm4.toArray⟩) lv4 (.int .i64 wi4) (.int .i64 n4) (.int .i64 d4) av4) q (.int .i64 k5) (.float .f64 x5) (.string ⟨nm5.toArray⟩) lv5 (.int .i64 wi5) (.int .i64 n5) (.int .i64 d5) av5
  have hh2 := put8_heap hy' (.int .i64 k5) (.float .f64 x5) (.string ⟨nm5.toArray⟩) lv5 (.int .i64 wi5) (.int .i64 n5) (.int .i64 d5) av5
  exact h.of (fun k hk k1 k2 => (hx2.block k (by rw [hs]; exact hk) k2).trans (hx.block k hk k1)) (((bt h.b4 h.b45).trans (hx.below hl h5)).trans (hx2.below hl2 (by rw [hs]; exact h5))) hp hq ((hx2.block p (by rw [hs]; exact l1) hne).trans hh) hh2
theorem szA_X {t : RT} (h : ∀ s ∈ nds t, szA s) : ∀ s ∈ nds t, szX s := fun s hs => by
  obtain ⟨k, x, nm, lb, w, n, d, ar⟩ := s
  exact (h _ hs).1.1
theorem szA_B {t : RT} (h : ∀ s ∈ nds t, szA s) : ∀ s ∈ nds t, szB s := fun s hs => (h s hs).2.2
set_option maxHeartbeats 8000000 in
set_option maxRecDepth 100000 in
theorem sames_walk (w : World) (he : Env w) (tx ty : RT) (vx vy : Value) (hx : RVh w tx vx) (hy : RVh w ty vy) (ax : ∀ s ∈ nds tx, szA s) (ay : ∀ s ∈ nds ty, szA s) :
    Calls Tryz.prog 3 #[vx, vy] w fun e w' => e = .returned (.bool true) ∧ Below w.heap.size w w' := by
  have HAw : Hid (∀ W, Below w.heap.size w W → Calls Tryz.prog 4 #[] W fun e w' => e = .returned (.bool true) ∧ Below W.heap.size W w') := fun W hb => awake_any W (he.below hb)
  have HSx : Hid (∀ W, Below w.heap.size w W → Calls Tryz.prog 5 #[vx] W fun e w' => e = .returned (.bool (decide (0 ≤ lfF tx 32768))) ∧ Below W.heap.size W w') := fun W hb => small_any tx vx W (RVh.rv _ _ (RVh.below hb _ _ hx)) (szA_B ax)
  have HSy : Hid (∀ W, Below w.heap.size w W → Calls Tryz.prog 5 #[vy] W fun e w' => e = .returned (.bool (decide (0 ≤ lfF ty 32768))) ∧ Below W.heap.size W w') := fun W hb => small_any ty vy W (RVh.rv _ _ (RVh.below hb _ _ hy)) (szA_B ay)
  have HOx : Hid (decide (0 ≤ lfF tx 32768) = true → ∀ W, Below w.heap.size w W → Calls Tryz.prog 6 #[vx] W fun e w' => OfQ tx W e w') := fun h W hb => of_any tx vx W (RVh.below hb _ _ hx) (lf_small tx 32768 (by decide) (of_decide_eq_true h))
  have HOy : Hid (decide (0 ≤ lfF ty 32768) = true → ∀ W, Below w.heap.size w W → Calls Tryz.prog 6 #[vy] W fun e w' => OfQ ty W e w') := fun h W hb => of_any ty vy W (RVh.below hb _ _ hy) (lf_small ty 32768 (by decide) (of_decide_eq_true h))
  have HCs : Hid (∀ t t2 v v2 W, (t = tx ∨ t = ty) → (t2 = tx ∨ t2 = ty) → RV 0 W t v → RV 0 W t2 v2 → Calls Tryz.prog 7 #[v, v2] W fun e w' => e = .returned (.bool (smB t t2)) ∧ Below W.heap.size W w') := fun t t2 v v2 W h1 h2 hv hv2 => csame_any t t2 v v2 W hv hv2 (by rcases h1 with rfl | rfl; exact szA_X ax; exact szA_X ay) (by rcases h2 with rfl | rfl; exact szA_X ax; exact szA_X ay)
  have HDs : Hid (∀ W, Below w.heap.size w W → Calls Tryz.prog 8 #[vx, vy] W fun e w' => e = .returned (.bool (smB tx ty)) ∧ Below W.heap.size W w') := fun W hb => dsame_any tx ty vx vy W (RVh.rv _ _ (RVh.below hb _ _ hx)) (RVh.rv _ _ (RVh.below hb _ _ hy)) (szA_X ax) (szA_X ay)
  obtain ⟨k0, x0, nm0, la0, ln0, lc0, w0, n0, d0, aa0, an0, ac0, rfl⟩ := (RVh.rv _ _ hx).form
  obtain ⟨k1, x1, nm1, la1, ln1, lc1, w1, n1, d1, aa1, an1, ac1, rfl⟩ := (RVh.rv _ _ hy).form
  obtain ⟨W0, hW0⟩ : ∃ W0, W0 = (w.alloc (.cells (rc k0 x0 nm0 (.slice la0 ln0 lc0) w0 n0 d0 (.slice aa0 an0 ac0)) 26)).alloc (.cells (rc k1 x1 nm1 (.slice la1 ln1 lc1) w1 n1 d1 (.slice aa1 an1 ac1)) 26) := ⟨_, rfl⟩
  have hb0 : Below w.heap.size w W0 := by rw [hW0]; exact La.bel2 w _ _
  have hn0 : W0.heap[w.heap.size]? = some (.cells (rc k0 x0 nm0 (.slice la0 ln0 lc0) w0 n0 d0 (.slice aa0 an0 ac0)) 26) := by rw [hW0]; exact heap_alloc2_old w _ _
  have hz0 : W0.heap[w.heap.size + 1]? = some (.cells (rc k1 x1 nm1 (.slice la1 ln1 lc1) w1 n1 d1 (.slice aa1 an1 ac1)) 26) := by
    rw [hW0]
    have := new_1 (w.alloc (.cells (rc k0 x0 nm0 (.slice la0 ln0 lc0) w0 n0 d0 (.slice aa0 an0 ac0)) 26)) (.cells (rc k1 x1 nm1 (.slice la1 ln1 lc1) w1 n1 d1 (.slice aa1 an1 ac1)) 26)
    rw [show (w.alloc (.cells (rc k0 x0 nm0 (.slice la0 ln0 lc0) w0 n0 d0 (.slice aa0 an0 ac0)) 26)).heap.size = w.heap.size + 1 by simp] at this
    exact this
  have HW0 := hid_of hW0
  have HB0 := hid_of hb0
  have HN0 := hid_of hn0
  have HZ0 := hid_of hz0
  have sF := store_f
  have HSm := hid_of (smB_sym tx ty)
  have HRf := hid_of (smB_refl tx)
  clear he hx hy ax ay hW0 hb0 hn0 hz0
  generalize hp : decide (0 ≤ lfF tx 32768) = px at *
  generalize hq : decide (0 ≤ lfF ty 32768) = py at *
  clear hp hq
  go_enter Tryz.func3, Tryz.ntmps3
  go_upto_region 1 with fail
  rw [← HW0.out]
  clear HW0
  go_wp2_with fail
  refine Calls.mono (HAw.out _ HB0.out) ?_
  rintro e W1 ⟨rfl, hb1⟩
  have HB1 := hid_of (bt HB0.out hb1)
  have HN1 := hid_of (hk_at HN0.out hb1)
  have HZ1 := hid_of (hk_at HZ0.out hb1)
  clear HB0 HN0 HZ0 hb1 HAw
  go_upto_region 3 with fail
  obtain ⟨y0, y1, y2, y3, y4, y5, y6, y7⟩ := eight HN1.out
  go_wp2_with fail
  refine Calls.mono (HSx.out _ HB1.out) ?_
  rintro e W2 ⟨rfl, hb2⟩
  have HB2 := hid_of (bt HB1.out hb2)
  have HN2 := hid_of (hk_at HN1.out hb2)
  have HZ2 := hid_of (hk_at HZ1.out hb2)
  clear HB1 HN1 HZ1 hb2 HSx y0 y1 y2 y3 y4 y5 y6 y7
  cases px
  · clear HSy HOx HOy HCs HDs HSm HRf HN2 HZ2
    go_wp2_with fail
    go_ret
    exact ⟨rfl, HB2.out⟩
  have HOx1 := hid_of (HOx.out rfl)
  clear HOx
  obtain ⟨y0, y1, y2, y3, y4, y5, y6, y7⟩ := eight HZ2.out
  go_wp2_with fail
  refine Calls.mono (HSy.out _ HB2.out) ?_
  rintro e W3 ⟨rfl, hb3⟩
  have HB3 := hid_of (bt HB2.out hb3)
  have HN3 := hid_of (hk_at HN2.out hb3)
  have HZ3 := hid_of (hk_at HZ2.out hb3)
  clear HB2 HN2 HZ2 hb3 HSy y0 y1 y2 y3 y4 y5 y6 y7
  cases py
  · clear HOx1 HOy HCs HDs HSm HRf HN3 HZ3
    go_wp2_with fail
    go_ret
    exact ⟨rfl, HB3.out⟩
  have HOy1 := hid_of (HOy.out rfl)
  clear HOy
  go_upto_region 5 with fail
  obtain ⟨gx, hgx⟩ : ∃ gx, gx = w.heap.size := ⟨_, rfl⟩
  obtain ⟨gy, hgy⟩ : ∃ gy, gy = w.heap.size + 1 := ⟨_, rfl⟩
  rw [← hgx] at HN3
  rw [← hgy] at HZ3
  have HGx := hid_of hgx
  have HGy := hid_of hgy
  rw [← hgy]
  simp only [← hgx]
  clear hgx hgy
  go_cut [5, 6] from 17 to 20 (fun p q W => ∃ b5 b6 c5 c6, p = .pointer (some ⟨b5, 0, none⟩) ∧ q = .pointer (some ⟨b6, 0, none⟩) ∧ Hid (KS w tx ty gx gy (rc k0 x0 nm0 (.slice la0 ln0 lc0) w0 n0 d0 (.slice aa0 an0 ac0)) (rc k1 x1 nm1 (.slice la1 ln1 lc1) w1 n1 d1 (.slice aa1 an1 ac1)) b5 b6 c5 c6 W))
  case first =>
    have hgx3 : gx < W3.heap.size := (Array.getElem?_eq_some_iff.1 HN3.out).1
    have hgy3 : gy < W3.heap.size := (Array.getElem?_eq_some_iff.1 HZ3.out).1
    have HKp : Hid (∀ W1, Below W3.heap.size W3 W1 → (fun W => c8 gx k0 x0 nm0 (.slice la0 ln0 lc0) w0 n0 d0 (.slice aa0 an0 ac0) W ∧ c8 gy k1 x1 nm1 (.slice la1 ln1 lc1) w1 n1 d1 (.slice aa1 an1 ac1) W) W1) := fun W1 hb => ⟨eight (hk_at HN3.out hb), eight (hk_at HZ3.out hb)⟩
    have HCa : Hid (∀ W, Below W3.heap.size W3 W → Calls Tryz.prog 6 #[.agg (rc k0 x0 nm0 (.slice la0 ln0 lc0) w0 n0 d0 (.slice aa0 an0 ac0))] W fun e w' => ∃ v, e = .returned v ∧ RV W.heap.size w' tx v ∧ Below W.heap.size W w') := fun W hb => HOx1.out W (bt HB3.out hb)
    have HCb : Hid (∀ W, Below W3.heap.size W3 W → Calls Tryz.prog 6 #[.agg (rc k1 x1 nm1 (.slice la1 ln1 lc1) w1 n1 d1 (.slice aa1 an1 ac1))] W fun e w' => ∃ v, e = .returned v ∧ RV W.heap.size w' ty v ∧ Below W.heap.size W w') := fun W hb => HOy1.out W (bt HB3.out hb)
    clear HOx1 HOy1 HCs HDs HSm HRf
    go_region_held3 (fun W => c8 gx k0 x0 nm0 (.slice la0 ln0 lc0) w0 n0 d0 (.slice aa0 an0 ac0) W ∧ c8 gy k1 x1 nm1 (.slice la1 ln1 lc1) w1 n1 d1 (.slice aa1 an1 ac1) W)
      (((with_reducible refine HKp.out _ ?_); repeat (first | with_reducible exact hB5w | with_reducible exact hB4 | with_reducible exact Below.refl _ _ | with_reducible refine belD' ?_ | with_reducible refine belN' _ ?_ | (with_reducible refine Below.setCell ?_ (by first | with_reducible exact Nat.le_refl _ | (simp only []; omega)) _))))
      (first
        | (go_at_call 6; (with_reducible refine Calls.mono (HCa.out _ (by repeat (first | with_reducible exact hB5w | with_reducible exact hB4 | with_reducible exact Below.refl _ _ | with_reducible refine belD' ?_ | with_reducible refine belN' _ ?_))) ?_); rintro e w4 ⟨v4, rfl, hv4, hb4⟩; have hB4 : Below W3.heap.size W3 w4 := bt (by repeat (first | with_reducible exact Below.refl _ _ | with_reducible refine belD' ?_ | with_reducible refine belN' _ ?_)) hb4; obtain ⟨k4, x4, nm4, la4, ln4, lc4, wi4, n4, d4, aa4, an4, ac4, rfl⟩ := hv4.form; have hz1 : w4.heap[W3.heap.size]? = some (.cells (rc 0 0 [] (.slice none 0 0) 0 0 0 (.slice none 0 0)) 26) := (by first | exact hk_at (two_n W3 _ _).1 hb4 | exact hk_at (two_d W3 _ _).1 hb4); obtain ⟨ya0, ya1, ya2, ya3, ya4, ya5, ya6, ya7⟩ := eight hz1; have yaf := eight_f hz1; have hlya : W3.heap.size < w4.heap.size := (Array.getElem?_eq_some_iff.1 hz1).1; have hz2 : w4.heap[W3.heap.size + 1]? = some (.cells (rc 0 0 [] (.slice none 0 0) 0 0 0 (.slice none 0 0)) 26) := (by first | exact hk_at (two_n W3 _ _).2 hb4 | exact hk_at (two_d W3 _ _).2 hb4); obtain ⟨yb0, yb1, yb2, yb3, yb4, yb5, yb6, yb7⟩ := eight hz2; have ybf := eight_f hz2; have hlyb : W3.heap.size + 1 < w4.heap.size := (Array.getElem?_eq_some_iff.1 hz2).1; have hV4 := hv4.mono (B' := W3.heap.size + 2) (by first | simp | simp [World.drew]); have hP4 : W3.heap.size + 2 ≤ w4.heap.size := Nat.le_trans (by first | simp | simp [World.drew]) (Below.size hb4))
        | (go_at_call 6; (with_reducible refine Calls.mono (HCa.out _ (by repeat (first | with_reducible exact hB5w | with_reducible exact hB4 | with_reducible exact Below.refl _ _ | with_reducible refine belD' ?_ | with_reducible refine belN' _ ?_))) ?_); rintro e w4 ⟨v4, rfl, hv4, hb4⟩; have hB4 : Below W3.heap.size W3 w4 := bt (by repeat (first | with_reducible exact Below.refl _ _ | with_reducible refine belD' ?_ | with_reducible refine belN' _ ?_)) hb4; obtain ⟨k4, x4, nm4, la4, ln4, lc4, wi4, n4, d4, aa4, an4, ac4, rfl⟩ := hv4.form; have hz1 : w4.heap[W3.heap.size]? = some (.cells (rc 0 0 [] (.slice none 0 0) 0 0 0 (.slice none 0 0)) 26) := (by first | exact hk_at (new_1 W3 _) hb4 | exact hk_at (new_d W3 _) hb4); obtain ⟨ya0, ya1, ya2, ya3, ya4, ya5, ya6, ya7⟩ := eight hz1; have yaf := eight_f hz1; have hlya : W3.heap.size < w4.heap.size := (Array.getElem?_eq_some_iff.1 hz1).1; have hone : True := trivial; have hV4 := hv4.mono (B' := W3.heap.size + 1) (by first | simp | simp [World.drew]); have hP4 : W3.heap.size + 1 ≤ w4.heap.size := Nat.le_trans (by first | simp | simp [World.drew]) (Below.size hb4))
        | (go_at_call 6; (with_reducible refine Calls.mono (HCa.out _ (by repeat (first | with_reducible exact hB5w | with_reducible exact hB4 | with_reducible exact Below.refl _ _ | with_reducible refine belD' ?_ | with_reducible refine belN' _ ?_))) ?_); rintro e w4 ⟨v4, rfl, hv4, hb4⟩; have hB4 : Below W3.heap.size W3 w4 := bt (by repeat (first | with_reducible exact Below.refl _ _ | with_reducible refine belD' ?_ | with_reducible refine belN' _ ?_)) hb4; obtain ⟨k4, x4, nm4, la4, ln4, lc4, wi4, n4, d4, aa4, an4, ac4, rfl⟩ := hv4.form; have hnone : True := trivial; have hV4 := hv4.mono (B' := W3.heap.size + 0) (by first | simp | simp [World.drew]); have hP4 : W3.heap.size + 0 ≤ w4.heap.size := Nat.le_trans (by first | simp | simp [World.drew]) (Below.size hb4))
        | (go_at_call 6; (with_reducible refine Calls.mono (HCb.out _ (by repeat (first | with_reducible exact hB5w | with_reducible exact hB4 | with_reducible exact Below.refl _ _ | with_reducible refine belD' ?_ | with_reducible refine belN' _ ?_))) ?_); rintro e w5 ⟨v5, rfl, hv5, hb5⟩; have hB45 : Below w4.heap.size w4 w5 := bt (by repeat (first | with_reducible exact Below.refl _ _ | with_reducible refine belD' ?_ | with_reducible refine belN' _ ?_)) hb5; have hB5w : Below W3.heap.size W3 w5 := bt hB4 hB45; obtain ⟨k5, x5, nm5, la5, ln5, lc5, wi5, n5, d5, aa5, an5, ac5, rfl⟩ := hv5.form; have hz1' : w5.heap[W3.heap.size]? = some (.cells (rc 0 0 [] (.slice none 0 0) 0 0 0 (.slice none 0 0)) 26) := hk_at hz1 hB45; obtain ⟨yc0, yc1, yc2, yc3, yc4, yc5, yc6, yc7⟩ := eight hz1'; have ycf := eight_f hz1'; have hlyc : W3.heap.size < w5.heap.size := (Array.getElem?_eq_some_iff.1 hz1').1; have hz2' : w5.heap[W3.heap.size + 1]? = some (.cells (rc 0 0 [] (.slice none 0 0) 0 0 0 (.slice none 0 0)) 26) := hk_at hz2 hB45; obtain ⟨yd0, yd1, yd2, yd3, yd4, yd5, yd6, yd7⟩ := eight hz2'; have ydf := eight_f hz2'; have hlyd : W3.heap.size + 1 < w5.heap.size := (Array.getElem?_eq_some_iff.1 hz2').1; have hV5 := hv5.mono (B' := w4.heap.size + 0) (by first | simp | simp [World.drew]); have hP5 : w4.heap.size + 0 ≤ w5.heap.size := Nat.le_trans (by first | simp | simp [World.drew]) (Below.size hb5))
        | (go_at_call 6; (with_reducible refine Calls.mono (HCb.out _ (by repeat (first | with_reducible exact hB5w | with_reducible exact hB4 | with_reducible exact Below.refl _ _ | with_reducible refine belD' ?_ | with_reducible refine belN' _ ?_))) ?_); rintro e w5 ⟨v5, rfl, hv5, hb5⟩; have hB45 : Below w4.heap.size w4 w5 := bt (by repeat (first | with_reducible exact Below.refl _ _ | with_reducible refine belD' ?_ | with_reducible refine belN' _ ?_)) hb5; have hB5w : Below W3.heap.size W3 w5 := bt hB4 hB45; obtain ⟨k5, x5, nm5, la5, ln5, lc5, wi5, n5, d5, aa5, an5, ac5, rfl⟩ := hv5.form; have hz1' : w5.heap[W3.heap.size]? = some (.cells (rc 0 0 [] (.slice none 0 0) 0 0 0 (.slice none 0 0)) 26) := hk_at hz1 hB45; obtain ⟨yc0, yc1, yc2, yc3, yc4, yc5, yc6, yc7⟩ := eight hz1'; have ycf := eight_f hz1'; have hlyc : W3.heap.size < w5.heap.size := (Array.getElem?_eq_some_iff.1 hz1').1; have hz3 : w5.heap[w4.heap.size]? = some (.cells (rc 0 0 [] (.slice none 0 0) 0 0 0 (.slice none 0 0)) 26) := (by first | exact hk_at (new_1 w4 _) hb5 | exact hk_at (new_d w4 _) hb5); obtain ⟨yf0, yf1, yf2, yf3, yf4, yf5, yf6, yf7⟩ := eight hz3; have yff := eight_f hz3; have hlyf : w4.heap.size < w5.heap.size := (Array.getElem?_eq_some_iff.1 hz3).1; have hV5 := hv5.mono (B' := w4.heap.size + 1) (by first | simp | simp [World.drew]); have hP5 : w4.heap.size + 1 ≤ w5.heap.size := Nat.le_trans (by first | simp | simp [World.drew]) (Below.size hb5))
        | (go_at_call 6; (with_reducible refine Calls.mono (HCb.out _ (by repeat (first | with_reducible exact hB5w | with_reducible exact hB4 | with_reducible exact Below.refl _ _ | with_reducible refine belD' ?_ | with_reducible refine belN' _ ?_))) ?_); rintro e w5 ⟨v5, rfl, hv5, hb5⟩; have hB45 : Below w4.heap.size w4 w5 := bt (by repeat (first | with_reducible exact Below.refl _ _ | with_reducible refine belD' ?_ | with_reducible refine belN' _ ?_)) hb5; have hB5w : Below W3.heap.size W3 w5 := bt hB4 hB45; obtain ⟨k5, x5, nm5, la5, ln5, lc5, wi5, n5, d5, aa5, an5, ac5, rfl⟩ := hv5.form; have hz1' : w5.heap[W3.heap.size]? = some (.cells (rc 0 0 [] (.slice none 0 0) 0 0 0 (.slice none 0 0)) 26) := hk_at hz1 hB45; obtain ⟨yc0, yc1, yc2, yc3, yc4, yc5, yc6, yc7⟩ := eight hz1'; have ycf := eight_f hz1'; have hlyc : W3.heap.size < w5.heap.size := (Array.getElem?_eq_some_iff.1 hz1').1; have hV5 := hv5.mono (B' := w4.heap.size + 0) (by first | simp | simp [World.drew]); have hP5 : w4.heap.size + 0 ≤ w5.heap.size := Nat.le_trans (by first | simp | simp [World.drew]) (Below.size hb5))
        | (go_at_call 6; (with_reducible refine Calls.mono (HCb.out _ (by repeat (first | with_reducible exact hB5w | with_reducible exact hB4 | with_reducible exact Below.refl _ _ | with_reducible refine belD' ?_ | with_reducible refine belN' _ ?_))) ?_); rintro e w5 ⟨v5, rfl, hv5, hb5⟩; have hB45 : Below w4.heap.size w4 w5 := bt (by repeat (first | with_reducible exact Below.refl _ _ | with_reducible refine belD' ?_ | with_reducible refine belN' _ ?_)) hb5; have hB5w : Below W3.heap.size W3 w5 := bt hB4 hB45; obtain ⟨k5, x5, nm5, la5, ln5, lc5, wi5, n5, d5, aa5, an5, ac5, rfl⟩ := hv5.form; have hz3 : w5.heap[w4.heap.size]? = some (.cells (rc 0 0 [] (.slice none 0 0) 0 0 0 (.slice none 0 0)) 26) := (by first | exact hk_at (two_n w4 _ _).1 hb5 | exact hk_at (two_d w4 _ _).1 hb5); obtain ⟨yf0, yf1, yf2, yf3, yf4, yf5, yf6, yf7⟩ := eight hz3; have yff := eight_f hz3; have hlyf : w4.heap.size < w5.heap.size := (Array.getElem?_eq_some_iff.1 hz3).1; have hz4 : w5.heap[w4.heap.size + 1]? = some (.cells (rc 0 0 [] (.slice none 0 0) 0 0 0 (.slice none 0 0)) 26) := (by first | exact hk_at (two_n w4 _ _).2 hb5 | exact hk_at (two_d w4 _ _).2 hb5); obtain ⟨yg0, yg1, yg2, yg3, yg4, yg5, yg6, yg7⟩ := eight hz4; have ygf := eight_f hz4; have hlyg : w4.heap.size + 1 < w5.heap.size := (Array.getElem?_eq_some_iff.1 hz4).1; have hV5 := hv5.mono (B' := w4.heap.size + 2) (by first | simp | simp [World.drew]); have hP5 : w4.heap.size + 2 ≤ w5.heap.size := Nat.le_trans (by first | simp | simp [World.drew]) (Below.size hb5))
        | (go_at_call 6; (with_reducible refine Calls.mono (HCb.out _ (by repeat (first | with_reducible exact hB5w | with_reducible exact hB4 | with_reducible exact Below.refl _ _ | with_reducible refine belD' ?_ | with_reducible refine belN' _ ?_))) ?_); rintro e w5 ⟨v5, rfl, hv5, hb5⟩; have hB45 : Below w4.heap.size w4 w5 := bt (by repeat (first | with_reducible exact Below.refl _ _ | with_reducible refine belD' ?_ | with_reducible refine belN' _ ?_)) hb5; have hB5w : Below W3.heap.size W3 w5 := bt hB4 hB45; obtain ⟨k5, x5, nm5, la5, ln5, lc5, wi5, n5, d5, aa5, an5, ac5, rfl⟩ := hv5.form; have hz3 : w5.heap[w4.heap.size]? = some (.cells (rc 0 0 [] (.slice none 0 0) 0 0 0 (.slice none 0 0)) 26) := (by first | exact hk_at (new_1 w4 _) hb5 | exact hk_at (new_d w4 _) hb5); obtain ⟨yf0, yf1, yf2, yf3, yf4, yf5, yf6, yf7⟩ := eight hz3; have yff := eight_f hz3; have hlyf : w4.heap.size < w5.heap.size := (Array.getElem?_eq_some_iff.1 hz3).1; have hV5 := hv5.mono (B' := w4.heap.size + 1) (by first | simp | simp [World.drew]); have hP5 : w4.heap.size + 1 ≤ w5.heap.size := Nat.le_trans (by first | simp | simp [World.drew]) (Below.size hb5))
        | (go_at_call 6; (with_reducible refine Calls.mono (HCb.out _ (by repeat (first | with_reducible exact hB5w | with_reducible exact hB4 | with_reducible exact Below.refl _ _ | with_reducible refine belD' ?_ | with_reducible refine belN' _ ?_))) ?_); rintro e w5 ⟨v5, rfl, hv5, hb5⟩; have hB45 : Below w4.heap.size w4 w5 := bt (by repeat (first | with_reducible exact Below.refl _ _ | with_reducible refine belD' ?_ | with_reducible refine belN' _ ?_)) hb5; have hB5w : Below W3.heap.size W3 w5 := bt hB4 hB45; obtain ⟨k5, x5, nm5, la5, ln5, lc5, wi5, n5, d5, aa5, an5, ac5, rfl⟩ := hv5.form; have hV5 := hv5.mono (B' := w4.heap.size + 0) (by first | simp | simp [World.drew]); have hP5 : w4.heap.size + 0 ≤ w5.heap.size := Nat.le_trans (by first | simp | simp [World.drew]) (Below.size hb5)))
    all_goals
      go_wp2_with fail
      go_meet
      have HKC : KC w W3 w4 w5 tx ty gx gy _ _ _ _ _ _ := ⟨HB3.out, HN3.out, HZ3.out, hV4, hP4, hV5, hP5, hB4, hB45⟩
    · exact ⟨_, _, _, _, rfl, rfl, HKC.fA⟩
    · exact ⟨_, _, _, _, rfl, rfl, HKC.fB⟩
    · exact ⟨_, _, _, _, rfl, rfl, HKC.fC hz3 (by unfold KQp; omega)⟩
    · exact ⟨_, _, _, _, rfl, rfl, HKC.fE hz3 hz4 (by unfold KQp; omega) (by unfold KQp; omega) (by omega)⟩
    · exact ⟨_, _, _, _, rfl, rfl, HKC.fD hz3 (by unfold KQp; omega)⟩
    · exact ⟨_, _, _, _, rfl, rfl, HKC.fE hz4 hz3 (by unfold KQp; omega) (by unfold KQp; omega) (by omega)⟩
    · exact ⟨_, _, _, _, rfl, rfl, HKC.fC hz1' (by unfold KQp; omega)⟩
    · exact ⟨_, _, _, _, rfl, rfl, HKC.fE hz1' hz3 (by unfold KQp; omega) (by unfold KQp; omega) (by omega)⟩
    · exact ⟨_, _, _, _, rfl, rfl, HKC.fE hz1' hz2' (by unfold KQp; omega) (by unfold KQp; omega) (by omega)⟩
    · exact ⟨_, _, _, _, rfl, rfl, HKC.fD hz1' (by unfold KQp; omega)⟩
    · exact ⟨_, _, _, _, rfl, rfl, HKC.fE hz3 hz1' (by unfold KQp; omega) (by unfold KQp; omega) (by omega)⟩
    · exact ⟨_, _, _, _, rfl, rfl, HKC.fE hz2' hz1' (by unfold KQp; omega) (by unfold KQp; omega) (by omega)⟩
  case rest =>
  obtain ⟨b5, b6, c5, c6, rfl, rfl, HK⟩ := hcut
  clear HB3 HN3 HZ3 HOx1 HOy1 HGx HGy
  obtain ⟨k2, x2, nm2, la2, ln2, lc2, w2, n2, d2, aa2, an2, ac2, h5⟩ := HK.out.r5.form
  obtain ⟨k3, x3, nm3, la3, ln3, lc3, w3, n3, d3, aa3, an3, ac3, h6⟩ := HK.out.r6.form
  cases h5
  cases h6
  go_upto_region 6 with fail
  have HC1 : Hid (∀ W, Below wc.heap.size wc W → Calls Tryz.prog 7 #[.agg (rc k2 x2 nm2 (.slice la2 ln2 lc2) w2 n2 d2 (.slice aa2 an2 ac2)), .agg (rc k3 x3 nm3 (.slice la3 ln3 lc3) w3 n3 d3 (.slice aa3 an3 ac3))] W fun e w' => e = .returned (.bool (smB tx ty)) ∧ Below W.heap.size W w') := fun W hb => HCs.out tx ty _ _ W (.inl rfl) (.inr rfl) (HK.out.r5.below hb) (HK.out.r6.below hb)
  have HC3 : Hid (∀ W, Below wc.heap.size wc W → Calls Tryz.prog 7 #[.agg (rc k3 x3 nm3 (.slice la3 ln3 lc3) w3 n3 d3 (.slice aa3 an3 ac3)), .agg (rc k2 x2 nm2 (.slice la2 ln2 lc2) w2 n2 d2 (.slice aa2 an2 ac2))] W fun e w' => e = .returned (.bool (smB tx ty)) ∧ Below W.heap.size W w') := fun W hb => by
    have := HCs.out ty tx _ _ W (.inr rfl) (.inl rfl) (HK.out.r6.below hb) (HK.out.r5.below hb)
    rw [← HSm.out] at this
    exact this
  have HC5 : Hid (∀ W, Below wc.heap.size wc W → Calls Tryz.prog 7 #[.agg (rc k2 x2 nm2 (.slice la2 ln2 lc2) w2 n2 d2 (.slice aa2 an2 ac2)), .agg (rc k2 x2 nm2 (.slice la2 ln2 lc2) w2 n2 d2 (.slice aa2 an2 ac2))] W fun e w' => e = .returned (.bool true) ∧ Below W.heap.size W w') := fun W hb => by
    have := HCs.out tx tx _ _ W (.inl rfl) (.inl rfl) (HK.out.r5.below hb) (HK.out.r5.below hb)
    rw [HRf.out] at this
    exact this
  have HD : Hid (∀ W, Below wc.heap.size wc W → Calls Tryz.prog 8 #[.agg (rc k0 x0 nm0 (.slice la0 ln0 lc0) w0 n0 d0 (.slice aa0 an0 ac0)), .agg (rc k1 x1 nm1 (.slice la1 ln1 lc1) w1 n1 d1 (.slice aa1 an1 ac1))] W fun e w' => e = .returned (.bool (smB tx ty)) ∧ Below W.heap.size W w') := fun W hb => HDs.out W (bt HK.out.b hb)
  have HKp : Hid (∀ W1, Below wc.heap.size wc W1 → (fun W => c8 gx k0 x0 nm0 (.slice la0 ln0 lc0) w0 n0 d0 (.slice aa0 an0 ac0) W ∧ c8 gy k1 x1 nm1 (.slice la1 ln1 lc1) w1 n1 d1 (.slice aa1 an1 ac1) W ∧ c8 b5 k2 x2 nm2 (.slice la2 ln2 lc2) w2 n2 d2 (.slice aa2 an2 ac2) W ∧ c8 b6 k3 x3 nm3 (.slice la3 ln3 lc3) w3 n3 d3 (.slice aa3 an3 ac3) W) W1) := fun W1 hb => ⟨eight (hk_at HK.out.g1 hb), eight (hk_at HK.out.g2 hb), eight (hk_at HK.out.h5 hb), eight (hk_at HK.out.h6 hb)⟩
  have HBw := hid_of HK.out.b
  clear HCs HDs HK HSm HRf
  generalize smB tx ty = bb at *
  cases bb
  all_goals
    go_region_held3 (fun W => c8 gx k0 x0 nm0 (.slice la0 ln0 lc0) w0 n0 d0 (.slice aa0 an0 ac0) W ∧ c8 gy k1 x1 nm1 (.slice la1 ln1 lc1) w1 n1 d1 (.slice aa1 an1 ac1) W ∧ c8 b5 k2 x2 nm2 (.slice la2 ln2 lc2) w2 n2 d2 (.slice aa2 an2 ac2) W ∧ c8 b6 k3 x3 nm3 (.slice la3 ln3 lc3) w3 n3 d3 (.slice aa3 an3 ac3) W)
      (((with_reducible refine HKp.out _ ?_); repeat (first | with_reducible exact hB9 | with_reducible exact Below.refl _ _ | with_reducible refine belD' ?_ | with_reducible refine belN' _ ?_)))
      (first
        | (go_at_call 7; (first | (with_reducible refine Calls.mono (HC1.out _ (by repeat (first | with_reducible exact hB9 | with_reducible exact Below.refl _ _ | with_reducible refine belD' ?_ | with_reducible refine belN' _ ?_))) ?_) | (with_reducible refine Calls.mono (HC3.out _ (by repeat (first | with_reducible exact hB9 | with_reducible exact Below.refl _ _ | with_reducible refine belD' ?_ | with_reducible refine belN' _ ?_))) ?_) | (with_reducible refine Calls.mono (HC5.out _ (by repeat (first | with_reducible exact hB9 | with_reducible exact Below.refl _ _ | with_reducible refine belD' ?_ | with_reducible refine belN' _ ?_))) ?_)); rintro e w9 ⟨rfl, hb9⟩; have hB9 : Below wc.heap.size wc w9 := bt (by repeat (first | with_reducible exact hB9 | with_reducible exact Below.refl _ _ | with_reducible refine belD' ?_ | with_reducible refine belN' _ ?_)) hb9)
        | (go_at_call 8; (with_reducible refine Calls.mono (HD.out _ (by repeat (first | with_reducible exact hB9 | with_reducible exact Below.refl _ _ | with_reducible refine belD' ?_ | with_reducible refine belN' _ ?_))) ?_); rintro e w9 ⟨rfl, hb9⟩; have hB9 : Below wc.heap.size wc w9 := bt (by repeat (first | with_reducible exact hB9 | with_reducible exact Below.refl _ _ | with_reducible refine belD' ?_ | with_reducible refine belN' _ ?_)) hb9))
    all_goals
      go_wp2_with fail
      go_ret
      exact ⟨rfl, bt HBw.out hB9⟩
end Go.Proofs.YtmmkboldkaehgaaGreatDoor.Ru
