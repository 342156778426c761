/- WORDS WITHOUT A GATE; rows of words. Own work of the verifier. -/
import Derived.Test.YtpllckgpolhafaaGreatDoorX5
import Derived.Test.YtpllckgpolhafaaGreatDoorPG
import Derived.Laws.LoneSync
namespace Go.Proofs.YtpllckgpolhafaaGreatDoor
open Go.RowKit

theorem swap_run (w : World) (a : Addr) (x y : Int) (hc : w.cell? a = some (.int .i64 x)) (hz : w.frozen? a = false) :
    (callFunc 77 #[.pointer (some a), .int .i64 y]).run Tryz.prog w = .ok (.value (.int .i64 x)) (w.setCell a (.int .i64 y)) := by
  rw [run_callFunc_extern Tryz.func77 (by kernel_rfl) (by kernel_rfl) (by kernel_rfl) (e := Extern.Atomic.swapT (.int .i64)) (by kernel_rfl)]
  change (Sem.run Tryz.prog (do
    let a' ← asAddr (.pointer (some a))
    let old ← Extern.Atomic.read (.int .i64) a'
    store a' (.int .i64 y) .atomic
    pure old) w).andThen _ = _
  simp [Extern.Atomic.read, asAddr, hc, hz, run_store Tryz.prog w a (.int .i64 y) .atomic rfl, Result.andThen]
theorem addw_run (w : World) (a : Addr) (x y : Int) (hc : w.cell? a = some (.int .i64 x)) (hz : w.frozen? a = false) :
    (callFunc 100 #[.pointer (some a), .int .i64 y]).run Tryz.prog w = .ok (.value (.int .i64 (wrap64 (x + y)))) (w.setCell a (.int .i64 (wrap64 (x + y)))) :=
  run_call_add Tryz.func100 (by kernel_rfl) (by kernel_rfl) (by kernel_rfl) .i64 (by kernel_rfl) hc hz (by simp [go_sem, wrap64, IntKind.wrap_i64])
theorem step_nil (w : World) : Calls Tryz.prog 50 #[.pointer none] w fun e w' => e = .returned (.tuple #[]) ∧ w' = w := by
  go_enter Tryz.func50, Tryz.ntmps50
  go_wp2
  first | go_end0 | refine bodyPost_ret (results_none rfl _ _ _) rfl ?_
  exact ⟨rfl, rfl⟩
theorem aswap_any (b o : Nat) (x y : Int) (w : World) (hc : w.cell? ⟨b, o, none⟩ = some (.int .i64 x)) (hz : w.frozen? ⟨b, o, none⟩ = false) :
    Calls Tryz.prog 51 #[.pointer (some ⟨b, o, none⟩), .int .i64 y] w fun e w' => e = .returned (.int .i64 x) ∧ w' = w.setCell ⟨b, o, none⟩ (.int .i64 y) := by
  have hs := swap_run w ⟨b, o, none⟩ x y hc hz
  go_enter Tryz.func51, Tryz.ntmps51
  go_wp2
  go_ret
  exact ⟨rfl, rfl⟩
theorem aadd_any (b o : Nat) (x y : Int) (w : World) (hc : w.cell? ⟨b, o, none⟩ = some (.int .i64 x)) (hz : w.frozen? ⟨b, o, none⟩ = false) :
    Calls Tryz.prog 79 #[.pointer (some ⟨b, o, none⟩), .int .i64 y] w fun e w' => e = .returned (.int .i64 (wrap64 (x + y))) ∧ w' = w.setCell ⟨b, o, none⟩ (.int .i64 (wrap64 (x + y))) := by
  have hs := addw_run w ⟨b, o, none⟩ x y hc hz
  go_enter Tryz.func79, Tryz.ntmps79
  go_wp2
  go_ret
  exact ⟨rfl, rfl⟩
theorem wswap_any (b o : Nat) (x y : Int) (w : World) (hc : w.cell? ⟨b, o, none⟩ = some (.int .i64 x)) (hz : w.frozen? ⟨b, o, none⟩ = false) :
    Calls Tryz.prog 30 #[.pointer (some ⟨b, o, none⟩), .pointer none, .int .i64 y] w fun e w' => e = .returned (.int .i64 x) ∧ w' = w.setCell ⟨b, o, none⟩ (.int .i64 y) := by
  have HS : Hid (∀ W, _) := step_nil
  have HA : Hid (∀ _ : Unit, _) := fun _ => aswap_any b o x y w hc hz
  go_enter Tryz.func30, Tryz.ntmps30
  go_wp2_with (first
    | (go_at_call 50; refine (HS.out _).mono ?_; rintro e w ⟨rfl, rfl⟩)
    | (go_at_call 51; refine (HA.out ()).mono ?_; rintro e w ⟨rfl, rfl⟩))
  go_ret
  exact ⟨rfl, rfl⟩
theorem wadd_any (b o : Nat) (x y : Int) (w : World) (hx : -9223372036854775808 ≤ x) (hx1 : x < 9223372036854775808) (hc : w.cell? ⟨b, o, none⟩ = some (.int .i64 x)) (hz : w.frozen? ⟨b, o, none⟩ = false) :
    Calls Tryz.prog 56 #[.pointer (some ⟨b, o, none⟩), .pointer none, .int .i64 y] w fun e w' => e = .returned (.int .i64 x) ∧ w' = w.setCell ⟨b, o, none⟩ (.int .i64 (wrap64 (x + y))) := by
  have HS : Hid (∀ W, _) := step_nil
  have HA : Hid (∀ _ : Unit, _) := fun _ => aadd_any b o x y w hc hz
  have HX : Hid (wrap64 (wrap64 (x + y) - y) = x) := by unfold Hid wrap64; omega
  generalize wrap64 (x + y) = z at *
  go_enter Tryz.func56, Tryz.ntmps56
  go_wp2_with (first
    | (go_at_call 50; refine (HS.out _).mono ?_; rintro e w ⟨rfl, rfl⟩)
    | (go_at_call 79; refine (HA.out ()).mono ?_; rintro e w ⟨rfl, rfl⟩))
  go_ret
  exact ⟨congrArg (fun z => Ending.returned (Value.int .i64 z)) HX.out, rfl⟩
/-- A row of words. -/
def RowW (w : World) (g : Nat) (xs : List Int) : Prop := w.heap[g]? = some (.cells (xs.map fun x => Value.int .i64 x).toArray 72 (0, 0))
theorem RowW.cell {w : World} {g : Nat} {xs : List Int} (h : RowW w g xs) (i : Nat) (hi : i < xs.length) : w.cell? ⟨g, i, none⟩ = some (.int .i64 xs[i]) := by
  unfold RowW at h; simp [World.cell?, h, hi]
theorem RowW.fr {w : World} {g : Nat} {xs : List Int} (h : RowW w g xs) (i : Nat) : w.frozen? ⟨g, i, none⟩ = false := by
  unfold RowW at h; simp [World.frozen?, h]
theorem RowW.lt {w : World} {g : Nat} {xs : List Int} (h : RowW w g xs) : g < w.heap.size := (Array.getElem?_eq_some_iff.1 h).1
theorem RowW.set {w : World} {g : Nat} {xs : List Int} (h : RowW w g xs) (i : Nat) (y : Int) : RowW (w.setCell ⟨g, i, none⟩ (.int .i64 y)) g (xs.set i y) := by
  unfold RowW at *
  rw [heap_setCell_same w g i _ _ _ h, List.map_set]
  simp
theorem RowW.mid {w w' : World} {g n0 B : Nat} {xs : List Int} (h : RowW w g xs) (hm : Mid n0 B w w') (hg : ¬ (n0 ≤ g ∧ g < B)) : RowW w' g xs := by
  have hl := h.lt
  unfold RowW at *; rw [hm.block g hl hg]; exact h
theorem RowW.below {w w' : World} {g B : Nat} {xs : List Int} (h : RowW w g xs) (hb : Below B w w') (hg : g < B) : RowW w' g xs := by
  unfold RowW at *; rw [hb.block g hg]; exact h
theorem RowW.alloc {w : World} {g : Nat} {xs : List Int} (h : RowW w g xs) (o : Obj) : RowW (w.alloc o) g xs := h.below ((Below.refl _ _).alloc (Nat.le_refl _) _) h.lt
theorem hid_mid {n0 B k : Nat} {W W' : World} {o : Obj} (h : Hid (W.heap[k]? = some o)) (hm : Hid (Mid n0 B W W')) (hk : ¬ (n0 ≤ k ∧ k < B)) : Hid (W'.heap[k]? = some o) := by
  unfold Hid at *; rw [hm.block k (Array.getElem?_eq_some_iff.1 h).1 hk]; exact h
theorem two_0 {W : World} {b : Nat} {u v : Value} {t : TypeId} (h : Hid (W.heap[b]? = some (.cells #[u, v] t (0, 0)))) : W.cell? ⟨b, 0, none⟩ = some u := by unfold Hid at h; simp [World.cell?, h]
theorem two_1 {W : World} {b : Nat} {u v : Value} {t : TypeId} (h : Hid (W.heap[b]? = some (.cells #[u, v] t (0, 0)))) : W.cell? ⟨b, 1, none⟩ = some v := by unfold Hid at h; simp [World.cell?, h]
theorem hid_fr {W : World} {b : Nat} {c : Array Value} {t : TypeId} (h : Hid (W.heap[b]? = some (.cells c t (0, 0)))) (o : Nat) : W.frozen? ⟨b, o, none⟩ = false := by unfold Hid at h; simp [World.frozen?, h]
theorem set_two {W : World} {b : Nat} {u v u' v' : Value} {t : TypeId} (h : W.heap[b]? = some (.cells #[u, v] t (0, 0))) : ((W.setCell ⟨b, 0, none⟩ u').setCell ⟨b, 1, none⟩ v').heap[b]? = some (.cells #[u', v'] t (0, 0)) := by
  rw [heap_setCell_same _ b 1 _ _ _ (heap_setCell_same W b 0 _ _ _ h)]; rfl
theorem RowW.other {w : World} {g : Nat} {xs : List Int} (h : RowW w g xs) {a : Addr} (ha : g ≠ a.block) (u : Value) : RowW (w.setCell a u) g xs := by
  unfold RowW at *; rw [heap_setCell_other w a g u ha]; exact h
theorem mid_set {W : World} (g i : Nat) (u : Value) : Mid g (g + 1) W (W.setCell ⟨g, i, none⟩ u) := (Mid.refl _ _ _).setCell (p := ⟨g, i, none⟩) (Or.inl ⟨Nat.le_refl _, Nat.lt_succ_self _⟩) u
theorem wswap_row (g i : Nat) (xs : List Int) (x y : Int) (W : World) (h : RowW W g xs) (hi : i < xs.length) (hx : xs[i] = x) (ys : List Int) (hy : xs.set i y = ys) :
    Calls Tryz.prog 30 #[.pointer (some ⟨g, i, none⟩), .pointer none, .int .i64 y] W fun e w' => e = .returned (.int .i64 x) ∧ Hid (RowW w' g ys) ∧ Hid (Mid g (g + 1) W w') := by
  subst hx hy
  refine Calls.mono (wswap_any g i xs[i] y W (h.cell i hi) (h.fr i)) ?_
  rintro e w' ⟨rfl, rfl⟩
  exact ⟨rfl, h.set i y, mid_set g i _⟩
theorem wadd_row (g i : Nat) (xs : List Int) (x y : Int) (W : World) (h : RowW W g xs) (hi : i < xs.length) (hx : xs[i] = x) (x0 : -9223372036854775808 ≤ x) (x1 : x < 9223372036854775808) (ys : List Int) (hy : xs.set i (wrap64 (x + y)) = ys) :
    Calls Tryz.prog 56 #[.pointer (some ⟨g, i, none⟩), .pointer none, .int .i64 y] W fun e w' => e = .returned (.int .i64 x) ∧ Hid (RowW w' g ys) ∧ Hid (Mid g (g + 1) W w') := by
  subst hx hy
  refine Calls.mono (wadd_any g i xs[i] y W x0 x1 (h.cell i hi) (h.fr i)) ?_
  rintro e w' ⟨rfl, rfl⟩
  exact ⟨rfl, h.set i _, mid_set g i _⟩
set_option maxHeartbeats 1000000 in
theorem drainSum_any (g cap : Nat) (lo hi : Int) (rest : List Int) (w : World) (h : RowW w g (lo :: hi :: rest)) :
    Calls Tryz.prog 221 #[.pointer none, .slice (some ⟨g, 0, none⟩) (rest.length + 2) cap] w fun e w' => e = .returned (.agg #[.int .i64 hi, .int .u64 (IntKind.u64.wrap lo)]) ∧ RowW w' g (0 :: 0 :: rest) ∧ Mid g (g + 1) w w' := by
  have HS0 : Hid (∀ W, RowW W g (lo :: hi :: rest) → Calls Tryz.prog 30 #[.pointer (some ⟨g, 0, none⟩), .pointer none, .int .i64 0] W fun e w' => e = .returned (.int .i64 lo) ∧ Hid (RowW w' g (0 :: hi :: rest)) ∧ Hid (Mid g (g + 1) W w')) := fun W hW => wswap_row g 0 _ lo 0 W hW (by simp) rfl _ rfl
  have HS1 : Hid (∀ W, RowW W g (0 :: hi :: rest) → Calls Tryz.prog 30 #[.pointer (some ⟨g, 1, none⟩), .pointer none, .int .i64 0] W fun e w' => e = .returned (.int .i64 hi) ∧ Hid (RowW w' g (0 :: 0 :: rest)) ∧ Hid (Mid g (g + 1) W w')) := fun W hW => wswap_row g 1 _ hi 0 W hW (by simp) rfl _ rfl
  have HR : Hid (RowW w g (lo :: hi :: rest)) := h
  have hl := h.lt
  have hn1 : ¬ (g ≤ w.heap.size ∧ w.heap.size < g + 1) := by omega
  have HN : Hid _ := new_1 w (.cells #[.int .i64 0, .int .u64 0] 52)
  clear h
  go_enter Tryz.func221, Tryz.ntmps221
  go_wp2_with (first
    | (go_at_call 30; with_reducible refine Calls.mono (HS0.out _ (HR.out.alloc _)) ?_; rintro e w1 ⟨rfl, HR1, HM1⟩)
    | (go_at_call 30; with_reducible refine Calls.mono (HS1.out _ HR1.out) ?_; rintro e w2 ⟨rfl, HR2, HM2⟩; have HN2 := hid_mid (hid_mid HN HM1 hn1) HM2 hn1; have q0 := two_0 HN2; have q1 := two_1 HN2; have f0 := hid_fr HN2 0; have f1 := hid_fr HN2 1))
  have HE := set_two (u' := .int .i64 hi) (v' := .int .u64 (IntKind.u64.wrap lo)) HN2.out
  have z0 := two_0 HE
  have z1 := two_1 HE
  simp [bodyPost, results, Tryz.results221, go_sem, z0, z1]
  have hM : Mid g (g + 1) w w2 := ((Mid.refl _ _ _).alloc _).trans (HM1.out.trans HM2.out)
  exact ⟨(HR2.out.other (by show g ≠ w.heap.size; omega) _).other (by show g ≠ w.heap.size; omega) _, (hM.setCell (p := ⟨w.heap.size, 0, none⟩) (Or.inr (Nat.le_refl _)) _).setCell (p := ⟨w.heap.size, 1, none⟩) (Or.inr (Nat.le_refl _)) _⟩
/-- A part, as the code has it. -/
abbrev part (hi lo : Int) (v : Value) (n : Int) (s c mn mx : Nat) : Value := .agg #[.int .i64 hi, .int .u64 lo, v, .int .u64 n, .complex .f64 s c, .float .f64 mn, .float .f64 mx]
theorem hid_below {B k : Nat} {W W' : World} {o : Obj} (h : Hid (W.heap[k]? = some o)) (hb : Below B W W') (hk : k < B) : Hid (W'.heap[k]? = some o) := by
  unfold Hid at *; rw [hb.block k hk]; exact h
theorem seven_cells {W : World} {b : Nat} {u0 u1 u2 u3 u4 u5 u6 : Value} {t : TypeId} (h : Hid (W.heap[b]? = some (.cells #[u0, u1, u2, u3, u4, u5, u6] t (0, 0)))) : W.cell? ⟨b, 0, none⟩ = some u0 ∧ W.cell? ⟨b, 1, none⟩ = some u1 ∧ W.cell? ⟨b, 2, none⟩ = some u2 ∧ W.cell? ⟨b, 3, none⟩ = some u3 ∧ W.cell? ⟨b, 4, none⟩ = some u4 ∧ W.cell? ⟨b, 5, none⟩ = some u5 ∧ W.cell? ⟨b, 6, none⟩ = some u6 := by
  unfold Hid at h; simp [World.cell?, h]
theorem seven_fr {W : World} {b : Nat} {u0 u1 u2 u3 u4 u5 u6 : Value} {t : TypeId} (h : Hid (W.heap[b]? = some (.cells #[u0, u1, u2, u3, u4, u5, u6] t (0, 0)))) : W.frozen? ⟨b, 0, none⟩ = false ∧ W.frozen? ⟨b, 1, none⟩ = false ∧ W.frozen? ⟨b, 2, none⟩ = false ∧ W.frozen? ⟨b, 3, none⟩ = false ∧ W.frozen? ⟨b, 4, none⟩ = false ∧ W.frozen? ⟨b, 5, none⟩ = false ∧ W.frozen? ⟨b, 6, none⟩ = false :=
  ⟨hid_fr h 0, hid_fr h 1, hid_fr h 2, hid_fr h 3, hid_fr h 4, hid_fr h 5, hid_fr h 6⟩
/-- A part is stored. -/
def put7 (W : World) (b : Nat) (v0 v1 v2 v3 v4 v5 v6 : Value) : World := ((((((W.setCell ⟨b, 0, none⟩ v0).setCell ⟨b, 1, none⟩ v1).setCell ⟨b, 2, none⟩ v2).setCell ⟨b, 3, none⟩ v3).setCell ⟨b, 4, none⟩ v4).setCell ⟨b, 5, none⟩ v5).setCell ⟨b, 6, none⟩ v6
theorem put7_eq (W : World) (b : Nat) (v0 v1 v2 v3 v4 v5 v6 : Value) : ((((((W.setCell ⟨b, 0, none⟩ v0).setCell ⟨b, 1, none⟩ v1).setCell ⟨b, 2, none⟩ v2).setCell ⟨b, 3, none⟩ v3).setCell ⟨b, 4, none⟩ v4).setCell ⟨b, 5, none⟩ v5).setCell ⟨b, 6, none⟩ v6 = put7 W b v0 v1 v2 v3 v4 v5 v6 := rfl
theorem set_seven {W : World} {b : Nat} {u0 u1 u2 u3 u4 u5 u6 v0 v1 v2 v3 v4 v5 v6 : Value} {t : TypeId} (h : W.heap[b]? = some (.cells #[u0, u1, u2, u3, u4, u5, u6] t (0, 0))) : (put7 W b v0 v1 v2 v3 v4 v5 v6).heap[b]? = some (.cells #[v0, v1, v2, v3, v4, v5, v6] t (0, 0)) := by
  unfold put7
  rw [heap_setCell_same _ b 6 _ _ _ (heap_setCell_same _ b 5 _ _ _ (heap_setCell_same _ b 4 _ _ _ (heap_setCell_same _ b 3 _ _ _ (heap_setCell_same _ b 2 _ _ _ (heap_setCell_same _ b 1 _ _ _ (heap_setCell_same _ b 0 _ _ _ (h)))))))]; rfl
theorem put7_other (W : World) (b k : Nat) (v0 v1 v2 v3 v4 v5 v6 : Value) (h : k ≠ b) : (put7 W b v0 v1 v2 v3 v4 v5 v6).heap[k]? = W.heap[k]? := by
  unfold put7
  rw [heap_setCell_other _ _ k _ h, heap_setCell_other _ _ k _ h, heap_setCell_other _ _ k _ h, heap_setCell_other _ _ k _ h, heap_setCell_other _ _ k _ h, heap_setCell_other _ _ k _ h, heap_setCell_other _ _ k _ h]
theorem put7_size (W : World) (b : Nat) (v0 v1 v2 v3 v4 v5 v6 : Value) : (put7 W b v0 v1 v2 v3 v4 v5 v6).heap.size = W.heap.size := by unfold put7; simp
theorem Mid.put7 {n0 B : Nat} {a w : World} (h : Mid n0 B a w) {b : Nat} (hb : a.heap.size ≤ b) (v0 v1 v2 v3 v4 v5 v6 : Value) : Mid n0 B a (put7 w b v0 v1 v2 v3 v4 v5 v6) := by
  unfold Go.Proofs.YtpllckgpolhafaaGreatDoor.put7
  exact ((((((h.setCell (p := ⟨b, 0, none⟩) (Or.inr hb) _).setCell (p := ⟨b, 1, none⟩) (Or.inr hb) _).setCell (p := ⟨b, 2, none⟩) (Or.inr hb) _).setCell (p := ⟨b, 3, none⟩) (Or.inr hb) _).setCell (p := ⟨b, 4, none⟩) (Or.inr hb) _).setCell (p := ⟨b, 5, none⟩) (Or.inr hb) _).setCell (p := ⟨b, 6, none⟩) (Or.inr hb) _
theorem RowW.put7 {w : World} {g : Nat} {xs : List Int} (h : RowW w g xs) {b : Nat} (hb : g ≠ b) (v0 v1 v2 v3 v4 v5 v6 : Value) : RowW (put7 w b v0 v1 v2 v3 v4 v5 v6) g xs := by
  unfold RowW at *; rw [put7_other _ _ _ _ _ _ _ _ _ _ hb]; exact h
theorem store_f (W : World) (a : Addr) (x : Nat) (m : Mode) : (store a (.float .f64 x) m).run Tryz.prog W = stored Tryz.prog W a (.float .f64 x) m := run_store Tryz.prog W a _ m rfl
theorem store_c (W : World) (a : Addr) (x y : Nat) (m : Mode) : (store a (.complex .f64 x y) m).run Tryz.prog W = stored Tryz.prog W a (.complex .f64 x y) m := run_store Tryz.prog W a _ m rfl
theorem store_i (W : World) (a : Addr) (t : TypeId) (x : Value) (m : Mode) : (store a (.iface t x) m).run Tryz.prog W = stored Tryz.prog W a (.iface t x) m := run_store Tryz.prog W a _ m rfl
set_option maxHeartbeats 1000000 in
theorem cdrain_any (p : Value) (g cap : Nat) (lo hi : Int) (rest : List Int) (w : World) (h : RowW w g (lo :: hi :: rest)) :
    Calls Tryz.prog 212 #[p, .pointer none, .slice (some ⟨g, 0, none⟩) (rest.length + 2) cap] w fun e w' => e = .returned (part hi (IntKind.u64.wrap lo) (.slice none 0 0) 0 0 0 0 0) ∧ RowW w' g (0 :: 0 :: rest) ∧ Mid g (g + 1) w w' := by
  have HD : Hid (∀ W, RowW W g (lo :: hi :: rest) → Calls Tryz.prog 221 #[.pointer none, .slice (some ⟨g, 0, none⟩) (rest.length + 2) cap] W fun e w' => e = .returned (.agg #[.int .i64 hi, .int .u64 (IntKind.u64.wrap lo)]) ∧ Hid (RowW w' g (0 :: 0 :: rest)) ∧ Hid (Mid g (g + 1) W w')) := fun W hW => drainSum_any g cap lo hi rest W hW
  have HR : Hid (RowW w g (lo :: hi :: rest)) := h
  have hl := h.lt
  have hn1 : ¬ (g ≤ w.heap.size ∧ w.heap.size < g + 1) := by omega
  have HN : Hid _ := new_1 w (.cells #[.int .i64 0, .int .u64 0, .slice none 0 0, .int .u64 0, .complex .f64 0 0, .float .f64 0, .float .f64 0] 60)
  clear h
  have sF := store_f
  have sC := store_c
  go_enter Tryz.func212, Tryz.ntmps212
  go_wp2_with (go_at_call 221; with_reducible refine Calls.mono (HD.out _ (HR.out.alloc _)) ?_; rintro e w1 ⟨rfl, HR1, HM1⟩; have HN1 := hid_mid HN HM1 hn1; obtain ⟨q0, q1, q2, q3, q4, q5, q6⟩ := seven_cells HN1; obtain ⟨f0, f1, f2, f3, f4, f5, f6⟩ := seven_fr HN1)
  rw [put7_eq]
  have HE := set_seven (v0 := .int .i64 hi) (v1 := .int .u64 (IntKind.u64.wrap lo)) (v2 := .slice none 0 0) (v3 := .int .u64 0) (v4 := .complex .f64 0 0) (v5 := .float .f64 0) (v6 := .float .f64 0) HN1.out
  obtain ⟨z0, z1, z2, z3, z4, z5, z6⟩ := seven_cells HE
  simp [bodyPost, results, Tryz.results212, go_sem, z0, z1, z2, z3, z4, z5, z6]
  have hM : Mid g (g + 1) w w1 := ((Mid.refl _ _ _).alloc _).trans HM1.out
  exact ⟨HR1.out.put7 (by omega) _ _ _ _ _ _ _, hM.put7 (Nat.le_refl _) _ _ _ _ _ _ _⟩
end Go.Proofs.YtpllckgpolhafaaGreatDoor
