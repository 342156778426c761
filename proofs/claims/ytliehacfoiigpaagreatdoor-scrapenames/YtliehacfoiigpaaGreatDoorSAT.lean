/- THE READER: a counter's line, where it is right. Own work of the verifier. -/
import Derived.Test.YtliehacfoiigpaaGreatDoorSAK
import Derived.Test.YtliehacfoiigpaaGreatDoorSAS
import Derived.Deep.RegionHeld3
namespace Go.Proofs.YtliehacfoiigpaaGreatDoor
open Go.RowKit Me

/-- What a counter's line says: its labels and its number. -/
def cntR (name L : List UInt8) : Option (List La.Lb × Int) := (spl L).bind fun ab => (labR name ab.1).bind fun l => (widR ab.2).map fun t => (l, t)
theorem cntR_some {name S : List UInt8} {L : List La.Lb} {t : Int} (h : cntR name S = some (L, t)) : ∃ a b, spl S = some (a, b) ∧ labR name a = some L ∧ widR b = some t := by
  unfold cntR at h
  cases h1 : spl S with
  | none => rw [h1] at h; cases h
  | some ab =>
    rw [h1] at h
    cases h2 : labR name ab.1 with
    | none => simp [h2] at h
    | some l =>
      cases h3 : widR ab.2 with
      | none => simp [h2, h3] at h
      | some t' =>
        simp [h2, h3] at h
        exact ⟨ab.1, ab.2, rfl, by rw [h2, h.1], by rw [h3, h.2]⟩
theorem spl_len {S a b : List UInt8} (h : spl S = some (a, b)) : a.length ≤ S.length ∧ b.length ≤ S.length := by
  unfold spl at h
  split at h
  · simp only [Option.some.injEq, Prod.mk.injEq] at h
    obtain ⟨rfl, rfl⟩ := h
    simp only [List.length_take, List.length_drop]
    omega
  · cases h
abbrev d4 (k : Int) (nm hp : List UInt8) (lv : Value) : Array Value := #[.int .i64 k, .string ⟨nm.toArray⟩, .string ⟨hp.toArray⟩, lv]
abbrev z11 : Array Value := #[.int .i64 0, .string ⟨#[]⟩, .string ⟨#[]⟩, .slice none 0 0, .int .i64 0, .int .u64 0, .slice none 0 0, .int .u64 0, .float .f64 0, .float .f64 0, .float .f64 0]
/-- A counter as a value. -/
abbrev cvV (k : Int) (nm hp : List UInt8) (lv : Value) (t : Int) : Array Value := #[.int .i64 k, .string ⟨nm.toArray⟩, .string ⟨hp.toArray⟩, lv, .int .i64 (hiOf t), .int .u64 (loOf t), .slice none 0 0, .int .u64 0, .float .f64 0, .float .f64 0, .float .f64 0]
theorem store_f (W : World) (a : Addr) (x : Nat) (m : Mode) : (store a (.float .f64 x) m).run Tryz.prog W = stored Tryz.prog W a (.float .f64 x) m := run_store Tryz.prog W a _ m rfl
theorem elev {W : World} {b : Nat} {x0 x1 x2 x3 x4 x5 x6 x7 x8 x9 x10 : Value} {t : TypeId} (h : W.heap[b]? = some (.cells #[x0, x1, x2, x3, x4, x5, x6, x7, x8, x9, x10] t)) : W.cell? ⟨b, 0, none⟩ = some x0 ∧ W.cell? ⟨b, 1, none⟩ = some x1 ∧ W.cell? ⟨b, 2, none⟩ = some x2 ∧ W.cell? ⟨b, 3, none⟩ = some x3 ∧ W.cell? ⟨b, 4, none⟩ = some x4 ∧ W.cell? ⟨b, 5, none⟩ = some x5 ∧ W.cell? ⟨b, 6, none⟩ = some x6 ∧ W.cell? ⟨b, 7, none⟩ = some x7 ∧ W.cell? ⟨b, 8, none⟩ = some x8 ∧ W.cell? ⟨b, 9, none⟩ = some x9 ∧ W.cell? ⟨b, 10, none⟩ = some x10 ∧ ∀ o, W.frozen? ⟨b, o, none⟩ = false := by
  refine ⟨?_, ?_, ?_, ?_, ?_, ?_, ?_, ?_, ?_, ?_, ?_, fun o => ?_⟩ <;> simp [World.cell?, World.frozen?, h]
/-- Eleven cells, stored. -/
def put11 (W : World) (b : Nat) (y0 y1 y2 y3 y4 y5 y6 y7 y8 y9 y10 : Value) : World := ((((((((((W.setCell ⟨b, 0, none⟩ y0).setCell ⟨b, 1, none⟩ y1).setCell ⟨b, 2, none⟩ y2).setCell ⟨b, 3, none⟩ y3).setCell ⟨b, 4, none⟩ y4).setCell ⟨b, 5, none⟩ y5).setCell ⟨b, 6, none⟩ y6).setCell ⟨b, 7, none⟩ y7).setCell ⟨b, 8, none⟩ y8).setCell ⟨b, 9, none⟩ y9).setCell ⟨b, 10, none⟩ y10
theorem put11_heap {W : World} {b : Nat} {x0 x1 x2 x3 x4 x5 x6 x7 x8 x9 x10 : Value} {t : TypeId} (h : W.heap[b]? = some (.cells #[x0, x1, x2, x3, x4, x5, x6, x7, x8, x9, x10] t)) (y0 y1 y2 y3 y4 y5 y6 y7 y8 y9 y10 : Value) : (put11 W b y0 y1 y2 y3 y4 y5 y6 y7 y8 y9 y10).heap[b]? = some (.cells #[y0, y1, y2, y3, y4, y5, y6, y7, y8, y9, y10] t) := by
  have h0 : (W.setCell ⟨b, 0, none⟩ y0).heap[b]? = some (.cells #[y0, x1, x2, x3, x4, x5, x6, x7, x8, x9, x10] t) := by have := Lib.heap_setCell_same (i := 0) h y0; simpa using this
  have h1 : ((W.setCell ⟨b, 0, none⟩ y0).setCell ⟨b, 1, none⟩ y1).heap[b]? = some (.cells #[y0, y1, x2, x3, x4, x5, x6, x7, x8, x9, x10] t) := by have := Lib.heap_setCell_same (i := 1) h0 y1; simpa using this
  have h2 : (((W.setCell ⟨b, 0, none⟩ y0).setCell ⟨b, 1, none⟩ y1).setCell ⟨b, 2, none⟩ y2).heap[b]? = some (.cells #[y0, y1, y2, x3, x4, x5, x6, x7, x8, x9, x10] t) := by have := Lib.heap_setCell_same (i := 2) h1 y2; simpa using this
  have h3 : ((((W.setCell ⟨b, 0, none⟩ y0).setCell ⟨b, 1, none⟩ y1).setCell ⟨b, 2, none⟩ y2).setCell ⟨b, 3, none⟩ y3).heap[b]? = some (.cells #[y0, y1, y2, y3, x4, x5, x6, x7, x8, x9, x10] t) := by have := Lib.heap_setCell_same (i := 3) h2 y3; simpa using this
  have h4 : (((((W.setCell ⟨b, 0, none⟩ y0).setCell ⟨b, 1, none⟩ y1).setCell ⟨b, 2, none⟩ y2).setCell ⟨b, 3, none⟩ y3).setCell ⟨b, 4, none⟩ y4).heap[b]? = some (.cells #[y0, y1, y2, y3, y4, x5, x6, x7, x8, x9, x10] t) := by have := Lib.heap_setCell_same (i := 4) h3 y4; simpa using this
  have h5 : ((((((W.setCell ⟨b, 0, none⟩ y0).setCell ⟨b, 1, none⟩ y1).setCell ⟨b, 2, none⟩ y2).setCell ⟨b, 3, none⟩ y3).setCell ⟨b, 4, none⟩ y4).setCell ⟨b, 5, none⟩ y5).heap[b]? = some (.cells #[y0, y1, y2, y3, y4, y5, x6, x7, x8, x9, x10] t) := by have := Lib.heap_setCell_same (i := 5) h4 y5; simpa using this
  have h6 : (((((((W.setCell ⟨b, 0, none⟩ y0).setCell ⟨b, 1, none⟩ y1).setCell ⟨b, 2, none⟩ y2).setCell ⟨b, 3, none⟩ y3).setCell ⟨b, 4, none⟩ y4).setCell ⟨b, 5, none⟩ y5).setCell ⟨b, 6, none⟩ y6).heap[b]? = some (.cells #[y0, y1, y2, y3, y4, y5, y6, x7, x8, x9, x10] t) := by have := Lib.heap_setCell_same (i := 6) h5 y6; simpa using this
  have h7 : ((((((((W.setCell ⟨b, 0, none⟩ y0).setCell ⟨b, 1, none⟩ y1).setCell ⟨b, 2, none⟩ y2).setCell ⟨b, 3, none⟩ y3).setCell ⟨b, 4, none⟩ y4).setCell ⟨b, 5, none⟩ y5).setCell ⟨b, 6, none⟩ y6).setCell ⟨b, 7, none⟩ y7).heap[b]? = some (.cells #[y0, y1, y2, y3, y4, y5, y6, y7, x8, x9, x10] t) := by have := Lib.heap_setCell_same (i := 7) h6 y7; simpa using this
  have h8 : (((((((((W.setCell ⟨b, 0, none⟩ y0).setCell ⟨b, 1, none⟩ y1).setCell ⟨b, 2, none⟩ y2).setCell ⟨b, 3, none⟩ y3).setCell ⟨b, 4, none⟩ y4).setCell ⟨b, 5, none⟩ y5).setCell ⟨b, 6, none⟩ y6).setCell ⟨b, 7, none⟩ y7).setCell ⟨b, 8, none⟩ y8).heap[b]? = some (.cells #[y0, y1, y2, y3, y4, y5, y6, y7, y8, x9, x10] t) := by have := Lib.heap_setCell_same (i := 8) h7 y8; simpa using this
  have h9 : ((((((((((W.setCell ⟨b, 0, none⟩ y0).setCell ⟨b, 1, none⟩ y1).setCell ⟨b, 2, none⟩ y2).setCell ⟨b, 3, none⟩ y3).setCell ⟨b, 4, none⟩ y4).setCell ⟨b, 5, none⟩ y5).setCell ⟨b, 6, none⟩ y6).setCell ⟨b, 7, none⟩ y7).setCell ⟨b, 8, none⟩ y8).setCell ⟨b, 9, none⟩ y9).heap[b]? = some (.cells #[y0, y1, y2, y3, y4, y5, y6, y7, y8, y9, x10] t) := by have := Lib.heap_setCell_same (i := 9) h8 y9; simpa using this
  have h10 : (((((((((((W.setCell ⟨b, 0, none⟩ y0).setCell ⟨b, 1, none⟩ y1).setCell ⟨b, 2, none⟩ y2).setCell ⟨b, 3, none⟩ y3).setCell ⟨b, 4, none⟩ y4).setCell ⟨b, 5, none⟩ y5).setCell ⟨b, 6, none⟩ y6).setCell ⟨b, 7, none⟩ y7).setCell ⟨b, 8, none⟩ y8).setCell ⟨b, 9, none⟩ y9).setCell ⟨b, 10, none⟩ y10).heap[b]? = some (.cells #[y0, y1, y2, y3, y4, y5, y6, y7, y8, y9, y10] t) := by have := Lib.heap_setCell_same (i := 10) h9 y10; simpa using this
  exact h10
theorem Rd.put11 {u : World} {rb : Nat} {w0 W : World} {T : List UInt8} {n : Nat} (h : Rd u rb w0 T n W) (b : Nat) (y0 y1 y2 y3 y4 y5 y6 y7 y8 y9 y10 : Value) (hne : b ≠ rb) (hlo : w0.heap.size ≤ b) (hu : u.heap.size ≤ b) : Rd u rb w0 T n (put11 W b y0 y1 y2 y3 y4 y5 y6 y7 y8 y9 y10) :=
  (((((((((((h.put ⟨b, 0, none⟩ _ hne hlo hu).put ⟨b, 1, none⟩ _ hne hlo hu).put ⟨b, 2, none⟩ _ hne hlo hu).put ⟨b, 3, none⟩ _ hne hlo hu).put ⟨b, 4, none⟩ _ hne hlo hu).put ⟨b, 5, none⟩ _ hne hlo hu).put ⟨b, 6, none⟩ _ hne hlo hu).put ⟨b, 7, none⟩ _ hne hlo hu).put ⟨b, 8, none⟩ _ hne hlo hu).put ⟨b, 9, none⟩ _ hne hlo hu).put ⟨b, 10, none⟩ _ hne hlo hu)
theorem own_far {W : World} {B b : Nat} {v : Value} {L : List La.Lb} (h : La.OwnL B v L W) (hb : b < B) : v.ownBlock ≠ some b := by
  rcases h.2 with ⟨k, _⟩ | ⟨g, cap, cur, k1, k2, _⟩
  · rw [k]; simp [Value.ownBlock]
  · rw [k1]
    simp only [Value.ownBlock]
    intro e
    cases e
    omega
theorem own_belL {W W1 : World} {B : Nat} {v : Value} {L : List La.Lb} (h : La.OwnL B v L W) (hb : Below W.heap.size W W1) : La.OwnL B v L W1 := own_belG h hb
theorem own_set1 {W : World} {B b : Nat} {v : Value} {L : List La.Lb} (h : La.OwnL B v L W) (hb : v.ownBlock ≠ some b) {a : Addr} (x : Value) (ha : a.block = b := by rfl) : La.OwnL B v L (W.setCell a x) := by
  refine ⟨h.1, ?_⟩
  rcases h.2 with k | ⟨g, cap, cur, k1, k2, k3, k4⟩
  · exact Or.inl k
  · refine Or.inr ⟨g, cap, cur, k1, k2, ?_, k4⟩
    rw [heap_other _ _ _ _ (fun e => hb (by rw [k1]; simp only [Value.ownBlock]; rw [e, ha]))]
    exact k3
theorem own_put11 {W : World} {B b : Nat} {v : Value} {L : List La.Lb} (h : La.OwnL B v L W) (hb : v.ownBlock ≠ some b) (y0 y1 y2 y3 y4 y5 y6 y7 y8 y9 y10 : Value) : La.OwnL B v L (put11 W b y0 y1 y2 y3 y4 y5 y6 y7 y8 y9 y10) := by
  exact (own_set1 (own_set1 (own_set1 (own_set1 (own_set1 (own_set1 (own_set1 (own_set1 (own_set1 (own_set1 (own_set1 h hb (a := ⟨b, 0, none⟩) y0) hb (a := ⟨b, 1, none⟩) y1) hb (a := ⟨b, 2, none⟩) y2) hb (a := ⟨b, 3, none⟩) y3) hb (a := ⟨b, 4, none⟩) y4) hb (a := ⟨b, 5, none⟩) y5) hb (a := ⟨b, 6, none⟩) y6) hb (a := ⟨b, 7, none⟩) y7) hb (a := ⟨b, 8, none⟩) y8) hb (a := ⟨b, 9, none⟩) y9) hb (a := ⟨b, 10, none⟩) y10)
/-- A list of the call's own stays where another block is stored into. -/
theorem own_put {W : World} {B b o : Nat} {v : Value} {L : List La.Lb} (h : La.OwnL B v L W) (hb : b < B) (x : Value) : La.OwnL b v L (W.setCell ⟨b, o, none⟩ x) := by
  refine ⟨h.1, ?_⟩
  rcases h.2 with k | ⟨g, cap, cur, k1, k2, k3, k4⟩
  · exact Or.inl k
  · refine Or.inr ⟨g, cap, cur, k1, by omega, ?_, k4⟩
    rw [heap_other _ _ _ _ (by show g ≠ b; omega)]
    exact k3
set_option maxRecDepth 100000 in
set_option maxHeartbeats 4000000 in
theorem counter_ok (u : World) (rb : Nat) (T nm hp : List UInt8) (k : Int) (lv : Value) (n : Nat) (L : List La.Lb) (t : Int) (w : World) (h : Rd u rb w T n w) (hm : Mx u) (ht : Wi.Tab u) (hT : T.length ≤ 4194304) (hn : n ≤ 4611686018427387904) (hc : (cut10 T).2.2 = true) (hR : cntR nm (cut10 T).1 = some (L, t)) :
    Calls Tryz.prog 37 #[.pointer (some ⟨rb, 0, none⟩), .agg (d4 k nm hp lv)] w fun e w' => ∃ v, e = .returned (.agg (cvV k nm hp v t)) ∧ Rd u rb w (cut10 T).2.1 (n + 1) w' ∧ La.OwnL w.heap.size v L w' := by
  obtain ⟨a, b, hsp, hlb, hwd⟩ := cntR_some hR
  obtain ⟨W0, hW0⟩ : ∃ W0, W0 = (w.alloc (.cells (d4 k nm hp lv) 35)).alloc (.cells z11 39) := ⟨_, rfl⟩
  have hb0 : Below w.heap.size w W0 := by rw [hW0]; exact bt (bel1 _ _) (bel1 _ _)
  have hN3 : W0.heap[w.heap.size]? = some (.cells (d4 k nm hp lv) 35) := by rw [hW0]; exact hkN' (new_1 w _) (bel1 _ _)
  have hN4 : W0.heap[w.heap.size + 1]? = some (.cells z11 39) := by
    rw [hW0]
    have := new_1 (w.alloc (.cells (d4 k nm hp lv) 35)) (.cells z11 39)
    rwa [show (w.alloc (.cells (d4 k nm hp lv) 35)).heap.size = w.heap.size + 1 by simp] at this
  have h0 := h.below hb0
  have hlt := h.lt
  have HNu : La.HidC _ _ _ _ _ := numbered_any u rb T n W0 W0 h0.re hm hT hn
  have hl := (cut_len T).1
  obtain ⟨hla, hlb2⟩ := spl_len hsp
  have HLb : Hid (∀ S W, Rd u rb W0 S (n + 1) W → Calls Tryz.prog 60 #[.pointer (some ⟨rb, 0, none⟩), .string ⟨nm.toArray⟩, .string ⟨a.toArray⟩] W fun e w' => ∃ v, e = .returned v ∧ La.OwnL W.heap.size v L w' ∧ Below W.heap.size W w') := fun S W k => by
    refine Calls.mono (labels_any u rb S nm a (n + 1) W0 W k (by omega)) ?_
    rintro e w' ⟨hb, ⟨L', v, q1, q2, q3⟩ | ⟨q, _⟩⟩
    · rw [hlb] at q1; cases q1; exact ⟨v, q2, q3, hb⟩
    · rw [hlb] at q; cases q
  have HWd : Hid (∀ S w1 W, Rd u rb w1 S (n + 1) W → Calls Tryz.prog 13 #[.pointer (some ⟨rb, 0, none⟩), .string ⟨b.toArray⟩] W fun e w' => e = .returned (.agg #[.int .i64 (hiOf t), .int .u64 (loOf t)]) ∧ Below W.heap.size W w') := fun S w1 W k => by
    refine Calls.mono (rwide_any u rb S b (n + 1) w1 W k ht) ?_
    rintro e w' ⟨hb, ⟨t', q1, q2⟩ | ⟨q, _⟩⟩
    · rw [hwd] at q1; cases q1; exact ⟨q2, hb⟩
    · rw [hwd] at q; cases q
  have hne : w.heap.size ≠ rb := by omega
  have HW0 := hid_of hW0
  have H0 := hid_of h0
  have HN3 := hid_of hN3
  have HN4 := hid_of hN4
  have HUs : Hid (u.heap.size ≤ w.heap.size) := h.st.size
  have HSz : Hid (w.heap.size + 2 ≤ W0.heap.size) := by rw [hW0]; simp [Hid]
  clear h hm ht hT hn hl hla hlb2 hW0 hN3 hN4 hb0 h0 hR hwd hlb
  go_enter Tryz.func37, Tryz.ntmps37
  go_upto_region 1 with fail
  rw [← HW0.out]
  clear HW0
  go_wp2_with fail
  refine Calls.mono HNu.out ?_
  rintro e w1 (⟨a', b', k1, k2, rfl, hr⟩ | ⟨k1, k2, -, -⟩ | ⟨k1, -, -⟩)
  · rw [hsp] at k2
    cases k2
    have hx3 := hr.ch.at_ HN3.out hne
    have hx4 := hr.ch.at_ HN4.out (by show w.heap.size + 1 ≠ rb; omega)
    obtain ⟨c0, c1, c2, c3⟩ := four_cells hx3
    have D2 : La.HidC _ _ _ _ _ := HLb.out _ w1 hr
    have HR1 := hid_of hr
    have HX3 := hid_of hx3
    have HX4 := hid_of hx4
    clear HNu HLb hsp hc k1 hr hx3 hx4 HN3 HN4
    go_wp2_with fail
    refine Calls.mono D2.out ?_
    rintro e w2 ⟨v, rfl, ho, hb2⟩
    obtain ⟨ao, g, cap, rfl, -⟩ := own_form ho
    have hy3 := hkN' HX3.out hb2
    have f3 : w2.frozen? ⟨w.heap.size, 3, none⟩ = false := by simp [World.frozen?, hy3]
    obtain ⟨e0, e1, e2, e3⟩ := four_cells hy3
    have hs1 : w.heap.size < w1.heap.size := by have := HR1.out.ch.size; have := HSz.out; omega
    have HR3 : Hid (Rd u rb w (cut10 T).2.1 (n + 1) (w2.setCell ⟨w.heap.size, 3, none⟩ (.slice ao L.length cap))) := (H0.out.then (HR1.out.below hb2)).put ⟨w.heap.size, 3, none⟩ _ hne (Nat.le_refl _) HUs.out
    have HZ3 : Hid ((w2.setCell ⟨w.heap.size, 3, none⟩ (.slice ao L.length cap)).heap[w.heap.size]? = some (.cells (d4 k nm hp (.slice ao L.length cap)) 35)) := by
      have := Lib.heap_setCell_same (i := 3) hy3 (.slice ao L.length cap)
      unfold Hid
      simpa using this
    have HZ4 : Hid ((w2.setCell ⟨w.heap.size, 3, none⟩ (.slice ao L.length cap)).heap[w.heap.size + 1]? = some (.cells z11 39)) := by
      show _ = _
      rw [heap_other _ _ _ _ (by show w.heap.size + 1 ≠ w.heap.size; omega)]
      exact hkN' HX4.out hb2
    have HOn : Hid ((Value.slice ao L.length cap).ownBlock ≠ some (w.heap.size + 1)) := own_far ho (by have := HR1.out.ch.size; have := HSz.out; omega)
    have HO3 : Hid (La.OwnL w.heap.size (.slice ao L.length cap) L (w2.setCell ⟨w.heap.size, 3, none⟩ (.slice ao L.length cap))) := own_put ho hs1 _
    clear D2 c0 c1 c2 c3 ho hb2 HX3 HX4 HR1 H0 hs1
    go_upto_region 3 with fail
    generalize w2.setCell ⟨w.heap.size, 3, none⟩ (.slice ao L.length cap) = w3 at *
    clear e0 e1 e2 e3 f3 hy3
    obtain ⟨e0, e1, e2, e3⟩ := four_cells HZ3.out
    have HQ : Hid (∀ w9, Below w3.heap.size w3 w9 → Rd u rb w (cut10 T).2.1 (n + 1) (put11 w9 (w.heap.size + 1) (.int .i64 k) (.string ⟨nm.toArray⟩) (.string ⟨hp.toArray⟩) (.slice ao L.length cap) (.int .i64 (hiOf t)) (.int .u64 (loOf t)) (.slice none 0 0) (.int .u64 0) (.float .f64 0) (.float .f64 0) (.float .f64 0)) ∧ La.OwnL w.heap.size (.slice ao L.length cap) L (put11 w9 (w.heap.size + 1) (.int .i64 k) (.string ⟨nm.toArray⟩) (.string ⟨hp.toArray⟩) (.slice ao L.length cap) (.int .i64 (hiOf t)) (.int .u64 (loOf t)) (.slice none 0 0) (.int .u64 0) (.float .f64 0) (.float .f64 0) (.float .f64 0))) := fun w9 hb => ⟨(HR3.out.below hb).put11 _ _ _ _ _ _ _ _ _ _ _ _ (by omega) (by omega) (by have := HUs.out; omega), own_put11 (own_belL HO3.out hb) HOn.out _ _ _ _ _ _ _ _ _ _ _⟩
    have HE : Hid (∀ w9, Below w3.heap.size w3 w9 → w9.heap[w.heap.size + 1]? = some (.cells z11 39)) := fun w9 hb => hkN' HZ4.out hb
    have HE3 : Hid (∀ w9, Below w3.heap.size w3 w9 → w9.heap[w.heap.size]? = some (.cells (d4 k nm hp (.slice ao L.length cap)) 35)) := fun w9 hb => hkN' HZ3.out hb
    have sF := store_f
    clear hne hlt HUs HSz HO3 HOn
    go_region_with (first
      | (go_at_call 13; (with_reducible refine Calls.mono (HWd.out _ _ _ (HR3.out.below (bel_dn (Below.refl _ _) 1))) ?_); rintro e w9 ⟨rfl, hb9⟩; have hB9 := bt (bel_dn (Below.refl _ _) 1) hb9; obtain ⟨y0, y1, y2, y3, y4, y5, y6, y7, y8, y9, y10, f⟩ := elev (HE.out w9 hB9); obtain ⟨g0, g1, g2, g3⟩ := four_cells (HE3.out w9 hB9)))
    all_goals
      obtain ⟨hq1, hq2⟩ := HQ.out w9 hB9
      have HF := hid_of hq1
      have HG := hid_of hq2
      have hph := put11_heap (HE.out w9 hB9) (.int .i64 k) (.string ⟨nm.toArray⟩) (.string ⟨hp.toArray⟩) (.slice ao L.length cap) (.int .i64 (hiOf t)) (.int .u64 (loOf t)) (.slice none 0 0) (.int .u64 0) (.float .f64 0) (.float .f64 0) (.float .f64 0)
      change Exit.then _ _ Exit.normal _ (put11 w9 (w.heap.size + 1) (.int .i64 k) (.string ⟨nm.toArray⟩) (.string ⟨hp.toArray⟩) (.slice ao L.length cap) (.int .i64 (hiOf t)) (.int .u64 (loOf t)) (.slice none 0 0) (.int .u64 0) (.float .f64 0) (.float .f64 0) (.float .f64 0))
      clear y0 y1 y2 y3 y4 y5 y6 y7 y8 y9 y10 f g0 g1 g2 g3 hq1 hq2 hb9 hB9 HQ HE HE3 sF HWd
      generalize put11 w9 (w.heap.size + 1) (.int .i64 k) (.string ⟨nm.toArray⟩) (.string ⟨hp.toArray⟩) (.slice ao L.length cap) (.int .i64 (hiOf t)) (.int .u64 (loOf t)) (.slice none 0 0) (.int .u64 0) (.float .f64 0) (.float .f64 0) (.float .f64 0) = W9 at *
      have HPH := hid_of hph
      clear hph
      go_wp2_with fail
      refine bodyPost_ret (results_cell_row (P := Tryz.prog) rfl _ _ (w.heap.size + 1) 39 _ (0, 0) _ rfl HPH.out Tryz.underlying39 rfl (by kernel_rfl)) rfl ?_
      exact ⟨_, rfl, HF.out, HG.out⟩
  · rw [hsp] at k2; cases k2
  · rw [hc] at k1; cases k1
end Go.Proofs.YtliehacfoiigpaaGreatDoor
