/- THE CELLS: Drain of each kind. Own work of the verifier. -/
import Derived.Test.YtpllckgpolhafaaGreatDoorS4
namespace Go.Proofs.YtpllckgpolhafaaGreatDoor
open Go.RowKit

/-- All but some blocks stay. -/
structure Off (gs : List Nat) (W W' : World) : Prop where
  os : W'.os = W.os
  tape : W'.tape = W.tape
  output : W'.output = W.output
  size : W.heap.size ≤ W'.heap.size
  block : ∀ k, k < W.heap.size → k ∉ gs → W'.heap[k]? = W.heap[k]?
theorem Off.refl (gs : List Nat) (W : World) : Off gs W W := ⟨rfl, rfl, rfl, Nat.le_refl _, fun _ _ _ => rfl⟩
theorem Off.trans {gs : List Nat} {a b c : World} (h : Off gs a b) (k : Off gs b c) : Off gs a c :=
  ⟨k.os.trans h.os, k.tape.trans h.tape, k.output.trans h.output, Nat.le_trans h.size k.size, fun j hj hn => (k.block j (Nat.lt_of_lt_of_le hj h.size) hn).trans (h.block j hj hn)⟩
theorem Off.of_below {gs : List Nat} {a b : World} (h : Below a.heap.size a b) : Off gs a b := ⟨h.os, h.tape, h.output, h.size, fun k hk _ => h.block k hk⟩
theorem Off.of_mid {gs : List Nat} {a b : World} {g : Nat} (h : Mid g (g + 1) a b) (hg : g ∈ gs) : Off gs a b := ⟨h.os, h.tape, h.output, h.size, fun k hk hn => h.block k hk (fun ⟨h1, h2⟩ => hn (by rw [show k = g by omega]; exact hg))⟩
theorem Off.put7 {gs : List Nat} {a w : World} (h : Off gs a w) {b : Nat} (hb : a.heap.size ≤ b) (v0 v1 v2 v3 v4 v5 v6 : Value) : Off gs a (put7 w b v0 v1 v2 v3 v4 v5 v6) := by
  have hm := mid_put7 w b v0 v1 v2 v3 v4 v5 v6
  refine ⟨hm.os.trans h.os, hm.tape.trans h.tape, hm.output.trans h.output, Nat.le_trans h.size hm.size, fun k hk hn => ?_⟩
  rw [put7_other _ _ _ _ _ _ _ _ _ _ (by omega)]
  exact h.block k hk hn
theorem Off.row {gs : List Nat} {a w : World} (h : Off gs a w) {g : Nat} {xs : List Int} (hr : RowW a g xs) (hg : g ∉ gs) : RowW w g xs := by
  have := hr.lt
  unfold RowW at *; rw [h.block g this hg]; exact hr
theorem Off.hid {gs : List Nat} {a w : World} (h : Off gs a w) {k : Nat} {o : Obj} (hk : a.heap[k]? = some o) (hg : k ∉ gs) : w.heap[k]? = some o := by
  rw [h.block k (Array.getElem?_eq_some_iff.1 hk).1 hg]; exact hk
/-- What a row's emptying tells and leaves, of words that hold xs. -/
def Drains (fd : FuncId) (pc : Value) (xs : List Int) (hi lo : Int) (ys : List Int) : Prop := ∀ (W : World) (g : Nat), RowW W g xs → Calls Tryz.prog fd #[pc, .pointer none, .slice (some ⟨g, 0, none⟩) xs.length xs.length] W fun e w' => e = .returned (part hi lo (.slice none 0 0) 0 0 0 0 0) ∧ Hid (RowW w' g ys) ∧ Hid (Mid g (g + 1) W w')
/-- Rows, what they hold, what they come to, what they hold then. -/
structure Rw where
  g : Nat
  xs : List Int
  hi : Int
  lo : Int
  ys : List Int
/-- The sum of the first i. -/
def sumR (R : List Rw) (i : Nat) : Int := (R.take i).foldl (fun t r => rnd (t + val r.hi r.lo)) 0
theorem sumR_succ (R : List Rw) (i : Nat) (h : i < R.length) : sumR R (i + 1) = rnd (sumR R i + val R[i].hi R[i].lo) := by
  unfold sumR; rw [List.take_succ_eq_append_getElem h, List.foldl_append]; rfl
theorem sumR_in (R : List Rw) (i : Nat) : InR (sumR R i) := by
  induction i with
  | zero => unfold sumR; constructor <;> simp
  | succ i ih =>
    by_cases h : i < R.length
    · rw [sumR_succ R i h]; exact inR_rnd _
    · have : sumR R (i + 1) = sumR R i := by unfold sumR; rw [List.take_of_length_le (by omega), List.take_of_length_le (by omega)]
      rw [this]; exact ih
/-- Rows while they are emptied: the first i are. -/
structure Wh (R : List Rw) (w : World) (i : Nat) (wr : World) : Prop where
  off : Off (R.map (·.g)) w wr
  done : ∀ j (h : j < R.length), j < i → RowW wr R[j].g R[j].ys
  left : ∀ j (h : j < R.length), i ≤ j → RowW wr R[j].g R[j].xs
theorem Wh.next {R : List Rw} {w wr w1 : World} {i : Nat} (h : Wh R w i wr) (hi : i < R.length) (hnd : (R.map (·.g)).Nodup) (hm : Mid R[i].g (R[i].g + 1) wr w1) (hy : RowW w1 R[i].g R[i].ys) : Wh R w (i + 1) w1 := by
  have hne : ∀ j (hj : j < R.length), j ≠ i → ¬ (R[i].g ≤ R[j].g ∧ R[j].g < R[i].g + 1) := fun j hj hji hc => by
    have e : (R.map (·.g))[j]'(by simpa using hj) = (R.map (·.g))[i]'(by simpa using hi) := by simp; omega
    rcases Nat.lt_or_gt_of_ne hji with hlt | hlt
    · exact List.pairwise_iff_getElem.1 hnd j i (by simpa using hj) (by simpa using hi) hlt e
    · exact List.pairwise_iff_getElem.1 hnd i j (by simpa using hi) (by simpa using hj) hlt e.symm
  refine ⟨h.off.trans (Off.of_mid hm (List.mem_map.2 ⟨R[i], List.getElem_mem hi, rfl⟩)), fun j hj hji => ?_, fun j hj hji => (h.left j hj (by omega)).mid hm (hne j hj (by omega))⟩
  by_cases e : j = i
  · subst e; exact hy
  · exact (h.done j hj (by omega)).mid hm (hne j hj e)
theorem Wh.below {R : List Rw} {w wr w1 : World} {i : Nat} (h : Wh R w i wr) (hb : Below wr.heap.size wr w1) : Wh R w i w1 :=
  ⟨h.off.trans (Off.of_below hb), fun j hj k => (h.done j hj k).below hb (h.done j hj k).lt, fun j hj k => (h.left j hj k).below hb (h.left j hj k).lt⟩
theorem Wh.put {R : List Rw} {w wr : World} {i : Nat} (h : Wh R w i wr) (hl : ∀ r ∈ R, r.g < w.heap.size) {b : Nat} (hb : w.heap.size ≤ b) (v0 v1 v2 v3 v4 v5 v6 : Value) : Wh R w i (put7 wr b v0 v1 v2 v3 v4 v5 v6) :=
  ⟨h.off.put7 hb _ _ _ _ _ _ _, fun j hj k => (h.done j hj k).put7 (by have := hl _ (List.getElem_mem hj); omega) _ _ _ _ _ _ _, fun j hj k => (h.left j hj k).put7 (by have := hl _ (List.getElem_mem hj); omega) _ _ _ _ _ _ _⟩
/-- A slab's buffer: its block, the instrument's, the rows'. -/
structure Buf (T : TypeId) (s c b h : Nat) (R : List Rw) (w : World) : Prop where
  slab : w.cell? ⟨s, 0, none⟩ = some (.iface T (.pointer (some ⟨c, 0, none⟩)))
  held : ∃ cap, w.cell? ⟨c, b, none⟩ = some (.slice (some ⟨h, 0, none⟩) R.length cap)
  rows : ∀ i (hi : i < R.length), w.cell? ⟨h, i, none⟩ = some (.slice (some ⟨R[i].g, 0, none⟩) R[i].xs.length R[i].xs.length)
  nd : (R.map (·.g)).Nodup
  s_ne : s ∉ R.map (·.g)
  c_ne : c ∉ R.map (·.g)
  h_ne : h ∉ R.map (·.g)
  left : ∀ r ∈ R, RowW w r.g r.xs
/-- What Drain tells. -/
def DrQ (R : List Rw) (w : World) (e : Ending) (w' : World) : Prop := ∃ v, e = .returned (.tuple #[cnt (sumR R R.length) v, .int .i64 0]) ∧ SN w' v [] ∧ Wh R w R.length w'
/-- Where Drain stands: the sum so far lies in a block of its own, the result's is there. -/
structure DrI (R : List Rw) (w : World) (i : Nat) (wr : World) : Prop where
  wh : Wh R w i wr
  res : wr.heap[w.heap.size]? = some (.cells #[.int .i64 0, .int .u64 0, .slice none 0 0, .int .u64 0, .complex .f64 0 0, .float .f64 0, .float .f64 0] 60 (0, 0))
  all : ∃ ao k cap, wr.heap[w.heap.size + 1]? = some (.cells #[.int .i64 (hiOf (sumR R i)), .int .u64 (loOf (sumR R i)), .slice ao k cap, .int .u64 0, .complex .f64 0 0, .float .f64 0, .float .f64 0] 60 (0, 0)) ∧ SN wr (.slice ao k cap) []
theorem dr_start {T : TypeId} {s c b h : Nat} {R : List Rw} {w w2 : World} (hB : Buf T s c b h R w) (g0 : w2.heap[w.heap.size]? = some (.cells #[.int .i64 0, .int .u64 0, .slice none 0 0, .int .u64 0, .complex .f64 0 0, .float .f64 0, .float .f64 0] 60 (0, 0))) (g1 : w2.heap[w.heap.size + 1]? = some (.cells #[.int .i64 0, .int .u64 0, .slice none 0 0, .int .u64 0, .complex .f64 0 0, .float .f64 0, .float .f64 0] 60 (0, 0))) (hb : Below w.heap.size w w2) : DrI R w 0 w2 :=
  ⟨⟨Off.of_below hb, fun j _ h => by omega, fun j hj _ => (hB.left _ (List.getElem_mem hj)).below hb (hB.left _ (List.getElem_mem hj)).lt⟩, g0, none, 0, 0, by rw [show sumR R 0 = 0 from rfl]; exact g1, Or.inl ⟨rfl, rfl⟩⟩
theorem dr_facts {T : TypeId} {s c b h i : Nat} {R : List Rw} {w wr : World} (hB : Hid (Buf T s c b h R w)) (hI : Hid (DrI R w i wr)) (hi : i < R.length) :
    wr.cell? ⟨h, i, none⟩ = some (.slice (some ⟨R[i].g, 0, none⟩) R[i].xs.length R[i].xs.length) ∧ wr.cell? ⟨s, 0, none⟩ = some (.iface T (.pointer (some ⟨c, 0, none⟩))) ∧ ∃ ao k cap, Hid (wr.heap[w.heap.size + 1]? = some (.cells #[.int .i64 (hiOf (sumR R i)), .int .u64 (loOf (sumR R i)), .slice ao k cap, .int .u64 0, .complex .f64 0 0, .float .f64 0, .float .f64 0] 60 (0, 0))) ∧ Hid (SN wr (.slice ao k cap) []) := by
  have h1 := hB.out.rows i hi
  have h2 := hB.out.slab
  refine ⟨(World.cell?_of_block (hI.out.wh.off.block h (lt_of_cell h1) hB.out.h_ne)).trans h1, (World.cell?_of_block (hI.out.wh.off.block s (lt_of_cell h2) hB.out.s_ne)).trans h2, hI.out.all⟩
theorem dr_apart {T : TypeId} {s c b h i k : Nat} {R : List Rw} {w : World} (hB : Hid (Buf T s c b h R w)) (hi : i < R.length) : ¬ (R[i].g ≤ w.heap.size + k ∧ w.heap.size + k < R[i].g + 1) := by
  have := (hB.out.left _ (List.getElem_mem hi)).lt
  omega
theorem sn_nil {w w' : World} {v : Value} (h : SN w v []) : SN w' v [] := by
  rcases h with h | ⟨b, o, cap, h1, h2, _⟩
  · exact Or.inl h
  · exact Or.inr ⟨b, o, cap, h1, h2, fun i hi => by simp at hi⟩
theorem mid_drew {n0 B : Nat} {W W' : World} (h : Mid n0 B W.drew W') : Mid n0 B W W' := ⟨h.os, h.tape, h.output, h.size, h.block⟩
theorem hid_kept {k : Nat} {W W' : World} {o : Obj} (h : Hid (W.heap[k]? = some o)) (hb : Hid (Below W.heap.size W W')) : Hid (W'.heap[k]? = some o) := hid_below h hb (Array.getElem?_eq_some_iff.1 h).1
theorem dr_next {R : List Rw} {w wr w1 w2 : World} {i g : Nat} {ao : Option Addr} {ka ca : Nat} {t : Int} {r0 r1 r2 r3 r4 r5 r6 : Value} (hI : Hid (DrI R w i wr)) (hW : Wh R w (i + 1) w1) (hg : ¬ (g ≤ w.heap.size ∧ w.heap.size < g + 1)) (hM : Mid g (g + 1) wr w1) (hb : Below w1.heap.size w1 w2) (hl : ∀ r ∈ R, r.g < w.heap.size) (ht : sumR R (i + 1) = t) (hA : w2.heap[w.heap.size + 1]? = some (.cells #[r0, r1, r2, r3, r4, r5, r6] 60 (0, 0))) (hs : SN w2 (.slice ao ka ca) []) :
    DrI R w (i + 1) (put7 w2 (w.heap.size + 1) (.int .i64 (hiOf t)) (.int .u64 (loOf t)) (.slice ao ka ca) (.int .u64 0) (.complex .f64 0 0) (.float .f64 0) (.float .f64 0)) := by
  subst ht
  have hr := hI.out.res
  have h1 : w1.heap[w.heap.size]? = _ := (hM.block _ (Array.getElem?_eq_some_iff.1 hr).1 hg).trans hr
  have h2 : w2.heap[w.heap.size]? = _ := (hb.block _ (Array.getElem?_eq_some_iff.1 h1).1).trans h1
  exact ⟨(hW.below hb).put hl (by omega) _ _ _ _ _ _ _, by rw [put7_other _ _ _ _ _ _ _ _ _ _ (by omega)]; exact h2, ao, ka, ca, set_seven hA, sn_nil hs⟩
theorem hid_drew {k : Nat} {W : World} {o : Obj} (h : Hid (W.heap[k]? = some o)) : Hid (W.drew.heap[k]? = some o) := h
theorem dr_all {R : List Rw} {w wr : World} {i : Nat} (hI : Hid (DrI R w i wr)) : ∃ ao k cap, Hid (wr.heap[w.heap.size + 1]? = some (.cells #[.int .i64 (hiOf (sumR R i)), .int .u64 (loOf (sumR R i)), .slice ao k cap, .int .u64 0, .complex .f64 0 0, .float .f64 0, .float .f64 0] 60 (0, 0))) ∧ Hid (SN wr (.slice ao k cap) []) := hI.out.all
set_option maxRecDepth 10000 in
set_option maxHeartbeats 4000000 in
theorem drain_counter (s c b h : Nat) (hb : b < 2) (R : List Rw) (w : World) (hB : Buf 130 s c b h R w) (hD : ∀ r ∈ R, Drains 212 (.pointer (some ⟨c, 0, none⟩)) r.xs r.hi r.lo r.ys ∧ Wf r.hi r.lo) (hR : R.length < 1000) :
    Calls Tryz.prog 16 #[.pointer (some ⟨s, 0, none⟩), .pointer none, .int .i64 (b : Int)] w fun e w' => DrQ R w e w' := by
  obtain ⟨cap, hheld⟩ := hB.held
  have hslab := hB.slab
  obtain ⟨w2, hw2⟩ : ∃ w2, (w.alloc (.cells #[.int .i64 0, .int .u64 0, .slice none 0 0, .int .u64 0, .complex .f64 0 0, .float .f64 0, .float .f64 0] 60)).alloc (.cells #[.int .i64 0, .int .u64 0, .slice none 0 0, .int .u64 0, .complex .f64 0 0, .float .f64 0, .float .f64 0] 60) = w2 := ⟨_, rfl⟩
  have hb2 : Below w.heap.size w w2 := by rw [← hw2]; exact bel2 _ _ _
  have g0 : w2.heap[w.heap.size]? = some (.cells #[.int .i64 0, .int .u64 0, .slice none 0 0, .int .u64 0, .complex .f64 0 0, .float .f64 0, .float .f64 0] 60 (0, 0)) := by rw [← hw2]; exact Pr.new1 _ _ _
  have g1 : w2.heap[w.heap.size + 1]? = some (.cells #[.int .i64 0, .int .u64 0, .slice none 0 0, .int .u64 0, .complex .f64 0 0, .float .f64 0, .float .f64 0] 60 (0, 0)) := by rw [← hw2]; exact Pr.new2 _ _ _
  have HI : Hid (DrI R w 0 w2) := dr_start hB g0 g1 hb2
  have HB : Hid (∀ W, _) := isbuf_any b (by omega) (by omega)
  have hl := lt_of_cell hslab
  have hl2 := lt_of_cell hheld
  have hs2 : w2.cell? ⟨s, 0, none⟩ = some (.iface 130 (.pointer (some ⟨c, 0, none⟩))) := (hb2.cell (p := ⟨s, 0, none⟩) hl).trans hslab
  have hc2 : w2.cell? ⟨c, b, none⟩ = some (.slice (some ⟨h, 0, none⟩) R.length cap) := (hb2.cell (p := ⟨c, b, none⟩) hl2).trans hheld
  have HRo : Hid (∀ _ : Unit, _) := fun _ => rows_any c b hb (.slice (some ⟨h, 0, none⟩) R.length cap) w2 hc2
  have HBf : Hid (Buf 130 s c b h R w) := hB
  have HDr : Hid (∀ r ∈ R, Drains 212 (.pointer (some ⟨c, 0, none⟩)) r.xs r.hi r.lo r.ys ∧ Wf r.hi r.lo) := hD
  clear hB hD hheld hslab g0 g1 hc2
  go_enter Tryz.func16, Tryz.ntmps16
  go_wp2_with (first | (go_at_call 37; refine (HB.out _).mono ?_; rintro e w1 ⟨rfl, rfl⟩) | (go_at_call 216; refine Calls.mono (HRo.out ()) ?_; rintro e w1 ⟨rfl, rfl⟩))
  clear hw2 hs2
  go_loopw [22] (fun a wr => ∃ i : Nat, i ≤ R.length ∧ a = .int .i64 (i : Int) ∧ Hid (DrI R w i wr)) (fun a _ => R.length - (intOf a).toNat)
  case atStart => exact ⟨0, by omega, rfl, HI.out⟩
  case round =>
    obtain ⟨i, hi, rfl, HIi⟩ := hrel
    by_cases hlt : i < R.length
    · have hlt' : (i : Int) < (R.length : Int) := by omega
      obtain ⟨hrow, hsl, ao, ka, ca, HA, HSn⟩ := dr_facts HBf HIi hlt
      obtain ⟨q0, q1, q2, q3, q4, q5, q6⟩ := seven_cells HA
      obtain ⟨f0, f1, f2, f3, f4, f5, f6⟩ := seven_fr HA
      have HRW : Hid (RowW wr R[i].g R[i].xs) := HIi.out.wh.left i hlt (Nat.le_refl _)
      have HRWd : Hid (RowW wr.drew R[i].g R[i].xs) := HRW
      have HDi := HDr.out _ (List.getElem_mem hlt)
      have HD : Hid (∀ W, RowW W R[i].g R[i].xs → Calls Tryz.prog 212 #[.pointer (some ⟨c, 0, none⟩), .pointer none, .slice (some ⟨R[i].g, 0, none⟩) R[i].xs.length R[i].xs.length] W fun e w' => e = .returned (.agg #[.int .i64 R[i].hi, .int .u64 R[i].lo, .slice none 0 0, .int .u64 0, .complex .f64 0 0, .float .f64 0, .float .f64 0]) ∧ Hid (RowW w' R[i].g R[i].ys) ∧ Hid (Mid R[i].g (R[i].g + 1) W w')) := fun W => HDi.1 W R[i].g
      have HMg : Hid (∀ W, SN W (.slice ao ka ca) [] → Calls Tryz.prog 38 #[.agg #[.int .i64 (hiOf (sumR R i)), .int .u64 (loOf (sumR R i)), .slice ao ka ca, .int .u64 0, .complex .f64 0 0, .float .f64 0, .float .f64 0], .agg #[.int .i64 R[i].hi, .int .u64 R[i].lo, .slice none 0 0, .int .u64 0, .complex .f64 0 0, .float .f64 0, .float .f64 0]] W fun e w' => ∃ ao k cap, e = .returned (.agg #[.int .i64 (hiOf (sumR R (i + 1))), .int .u64 (loOf (sumR R (i + 1))), .slice ao k cap, .int .u64 0, .complex .f64 0 0, .float .f64 0, .float .f64 0]) ∧ Hid (SN w' (.slice ao k cap) []) ∧ Hid (Below W.heap.size W w')) := fun W hS => by
        rw [sumR_succ R i hlt]
        exact cnt_merge (sumR R i) R[i].hi R[i].lo (.slice ao ka ca) W (sumR_in R i) HDi.2 hS
      have HNx : Hid (∀ w1, RowW w1 R[i].g R[i].ys → Mid R[i].g (R[i].g + 1) wr w1 → Wh R w (i + 1) w1) := fun w1 h1 h2 => HIi.out.wh.next hlt HBf.out.nd h2 h1
      have HNA : Hid (¬ (R[i].g ≤ w.heap.size + 1 ∧ w.heap.size + 1 < R[i].g + 1)) := dr_apart HBf hlt
      clear HDi
      have HNR : Hid (¬ (R[i].g ≤ w.heap.size ∧ w.heap.size < R[i].g + 1)) := dr_apart (k := 0) HBf hlt
      have HL : Hid (∀ r ∈ R, r.g < w.heap.size) := fun r hr => (HBf.out.left r hr).lt
      have HWh : Hid (Wh R w i wr) := HIi.out.wh
      generalize R[i].g = g at *
      generalize R[i].xs = xs at *
      generalize R[i].ys = ys at *
      generalize R[i].hi = hi1 at *
      generalize R[i].lo = lo1 at *
      generalize hiOf (sumR R i) = T1 at *
      generalize loOf (sumR R i) = T0 at *
      have HU : Hid (∃ t, sumR R (i + 1) = t) := ⟨_, rfl⟩
      go_wp2_with fail
      have HAd := hid_drew HA
      have sF := store_f
      have sC := store_c
      go_region_with (first
        | (go_at_call 212; with_reducible refine Calls.mono (HD.out _ (by first | with_reducible exact HRWd.out | with_reducible exact HRW.out)) ?_; rintro e w1 ⟨rfl, HR1, HM1⟩; have HA1 := hid_mid HAd HM1 HNA.out; obtain ⟨q0, q1, q2, q3, q4, q5, q6⟩ := seven_cells HA1)
        | (go_at_call 38; with_reducible refine Calls.mono (HMg.out _ (sn_nil HSn.out)) ?_; rintro e w2 ⟨ao2, k2, c2, rfl, HSn2, HB2⟩; have HA2 := hid_kept HA1 HB2; obtain ⟨p0, p1, p2, p3, p4, p5, p6⟩ := seven_cells HA2; obtain ⟨f0, f1, f2, f3, f4, f5, f6⟩ := seven_fr HA2))
      all_goals
        go_wp2_with fail
        exact ⟨⟨i + 1, by omega, by simp, by rw [put7_eq]; exact dr_next (g := g) HIi (HNx.out w1 HR1.out (mid_drew HM1.out)) HNR.out (mid_drew HM1.out) HB2.out HL.out rfl HA2.out HSn2.out⟩, by simp [intOf]; omega⟩
    · obtain rfl : i = R.length := by omega
      have hlt' : ¬ (R.length : Int) < (R.length : Int) := by omega
      have HRs : Hid _ := HIi.out.res
      obtain ⟨ao, ka, ca, HA, HSn⟩ := dr_all HIi
      obtain ⟨q0, q1, q2, q3, q4, q5, q6⟩ := seven_cells HA
      obtain ⟨p0, p1, p2, p3, p4, p5, p6⟩ := seven_cells HRs
      obtain ⟨f0, f1, f2, f3, f4, f5, f6⟩ := seven_fr HRs
      have sF := store_f
      have sC := store_c
      have HL : Hid (∀ r ∈ R, r.g < w.heap.size) := fun r hr => (HBf.out.left r hr).lt
      have HQ : Hid (∀ v w', SN w' v [] → Wh R w R.length w' → DrQ R w (.returned (.tuple #[.agg #[.int .i64 (hiOf (sumR R R.length)), .int .u64 (loOf (sumR R R.length)), v, .int .u64 0, .complex .f64 0 0, .float .f64 0, .float .f64 0], .int .i64 0])) w') := fun v w' h1 h2 => ⟨v, rfl, h1, h2⟩
      generalize hiOf (sumR R R.length) = T1 at *
      generalize loOf (sumR R R.length) = T0 at *
      go_wp2_with fail
      rw [put7_eq]
      have HE := set_seven (v0 := .int .i64 T1) (v1 := .int .u64 T0) (v2 := .slice ao ka ca) (v3 := .int .u64 0) (v4 := .complex .f64 0 0) (v5 := .float .f64 0) (v6 := .float .f64 0) HRs.out
      obtain ⟨z0, z1, z2, z3, z4, z5, z6⟩ := seven_cells HE
      simp [bodyPost, results, Tryz.results16, go_sem, z0, z1, z2, z3, z4, z5, z6]
      exact HQ.out _ _ (sn_nil HSn.out) (HIi.out.wh.put HL.out (Nat.le_refl _) _ _ _ _ _ _ _)
end Go.Proofs.YtpllckgpolhafaaGreatDoor
