/- PairKeeps: THE WALK. Own work of the verifier. -/
import Derived.Test.YtfilaeameofiaaaD1
namespace Go.Proofs.Ytfilaeameofiaaa
open Go.RowKit Soft

theorem GB.push2 {B : Nat} {e : TypeId} {f : Nat → Value} {W0 w w' : World} {v v' : Value} {xs : List Nat} {x y : Nat} (h : GB B e f W0 v xs w) (ob : Obj)
    (hown : w'.ownsRow B e 1 v' (xs.length + 2) (xs.map f ++ [f x, f y])) (hg : (w.alloc ob).grownBy w' v.ownBlock) (hnil : v' = .slice none 0 0 ↔ v = .slice none 0 0 ∧ 2 = 0) : GB B e f W0 v' (xs ++ [x, y]) w' := by
  obtain ⟨gv, cap, cur, rfl, hB, hcur, _⟩ := own_of h.own h.nz
  have hw := World.grownBy_alloc w ob none
  have hg' : (w.alloc ob).grownBy w' (some gv) := hg
  have s1 := hw.size
  have s2 := hg'.size
  refine ⟨?_, fun e => h.nz (hnil.1 e).1, ?_, by have := h.size; omega⟩
  · rw [List.length_append, List.map_append]; exact hown
  · exact (h.below.grown hw h.size (fun k e => by cases e)).grown hg' (by have := h.size; omega) (fun k e => by cases e; exact hB)
theorem GB.rebase {B : Nat} {e : TypeId} {f : Nat → Value} {W0 w : World} {v : Value} {xs : List Nat} (h : GB B e f W0 v xs w) : GB B e f w v xs w := ⟨h.own, h.nz, Below.refl _ _, h.size⟩
theorem GB.store {B : Nat} {e : TypeId} {f : Nat → Value} {W0 w : World} {v : Value} {xs : List Nat} (h : GB B e f W0 v xs w) {a : Addr} (ha : a.block < B) (u : Value) : GB B e f (w.setCell a u) v xs (w.setCell a u) :=
  ⟨ownsRow_setCell_below h.own ha u, h.nz, Below.refl _ _, by rw [World.size_setCell]; exact h.size⟩
theorem cell_two_new (w : World) (x y : Value) (t : TypeId) : ∀ j u, [x, y][j]? = some u → (w.alloc (.cells #[x, y] t)).cell? ((⟨w.heap.size, 0, none⟩ : Addr).add j) = some u := by
  intro j u hj
  match j, hj with
  | 0, hj => simp at hj; subst hj; simp [go_sem]
  | 1, hj => simp at hj; subst hj; simp [go_sem]
  | k + 2, hj => simp at hj
theorem GB.row2 {B : Nat} {W0 v : _} {L : List Nat} {w : World} (h : GB B 33 (.float .f64) W0 v L w) : ∃ g cap, v = .slice (some ⟨g, 0, none⟩) L.length cap ∧ B ≤ g ∧ RowF w g 0 L ∧ L.length ≤ cap ∧ cap ≤ maxLen ∧ ∀ o, w.frozen? ⟨g, o, none⟩ = false := by
  obtain ⟨g, cap, cur, rfl, hB, hcur, h1, h2, h3, h4⟩ := own_of h.own h.nz
  refine ⟨g, cap, rfl, hB, ?_, h1, h2, fun o => by simp [World.frozen?, hcur]⟩
  intro i hi
  have := h.own.cellAt i (by simpa using hi)
  rw [Nat.zero_add, this]
  simp [hi]
theorem slice_to (t e : TypeId) (a : Option Addr) (len cap n : Nat) (ht : Try.prog.underlying t = some (.slice e)) (hn : n ≤ cap) (hs : ∀ W, (sizeOf e).run Try.prog W = .ok 1 W) (W : World) :
    (Instr.slice t (.slice a len cap) none (some (.int .i64 (n : Int))) none).run Try.prog W = .ok (.slice a n cap) W := by
  have he : Try.prog.elem t = e := by simp [Program.elem, ht]
  rw [run_slice_h W t a len cap (by rw [he]; exact ht) .i64 (n : Int) (by omega) (by omega), he, hs]
  simp [sliced]
  intro _
  cases a <;> simp [Addr.add]
theorem index_at (t e : TypeId) (g len cap i : Nat) (ht : Try.prog.underlying t = some (.slice e)) (hi : i < len) (hs : ∀ W, (sizeOf e).run Try.prog W = .ok 1 W) (W : World) :
    (Instr.indexAt t (.slice (some ⟨g, 0, none⟩) len cap) (.int .i64 (i : Int))).run Try.prog W = .ok (.pointer (some ⟨g, i, none⟩)) W := by
  have he : Try.prog.elem t = e := by simp [Program.elem, ht]
  rw [run_indexAt_slice W t ⟨g, 0, none⟩ len cap .i64 (i : Int) (by rw [he]; exact ht), if_pos (by omega), he, hs]
  simp [Addr.add]
  intro h; rw [h]
theorem sizeU (W : World) : (sizeOf 22).run Try.prog W = .ok 1 W := by simp [sizeOf]; rfl
theorem store_float (W : World) (g k x : Nat) (v : Value) (hc : W.cell? ⟨g, k, none⟩ = some v) (hf : W.frozen? ⟨g, k, none⟩ = false) :
    (store ⟨g, k, none⟩ (.float .f64 x)).run Try.prog W = .ok () (W.setCell ⟨g, k, none⟩ (.float .f64 x)) := by
  rw [run_store _ _ _ _ _ rfl]
  simp [hc, hf]
theorem sizeF (W : World) : (sizeOf 33).run Try.prog W = .ok 1 W := by
  simp [sizeOf]; rfl
theorem RowF.pre {w : World} {b o : Nat} {L M : List Nat} (h : RowF w b o (L ++ M)) : RowF w b o L := fun i hi => by
  rw [h i (by rw [List.length_append]; omega), List.getElem_append_left hi]
/-- What lies in memory between the two halves. -/
def KK (w : World) (b o g : Nat) (L : List Nat) (W : World) : Prop := RowU W b o L ∧ RowF W g 0 L ∧ Below w.heap.size w W ∧ (∀ o, W.frozen? ⟨g, o, none⟩ = false) ∧ g < W.heap.size
theorem KK.u {w W : World} {b o g : Nat} {L : List Nat} (h : KK w b o g L W) : RowU W b o L := h.1
theorem KK.f {w W : World} {b o g : Nat} {L : List Nat} (h : KK w b o g L W) : RowF W g 0 L := h.2.1
theorem KK.b {w W : World} {b o g : Nat} {L : List Nat} (h : KK w b o g L W) : Below w.heap.size w W := h.2.2.1
theorem KK.fr {w W : World} {b o g : Nat} {L : List Nat} (h : KK w b o g L W) (o' : Nat) : W.frozen? ⟨g, o', none⟩ = false := h.2.2.2.1 o'
theorem KK.lt {w W : World} {b o g : Nat} {L : List Nat} (h : KK w b o g L W) : g < W.heap.size := h.2.2.2.2
theorem KK.below {w W W1 : World} {b o g : Nat} {L : List Nat} (h : KK w b o g L W) (hb : Below W.heap.size W W1) : KK w b o g L W1 :=
  ⟨h.u.below hb (fun k => h.u.lt k), h.f.below hb (fun k => h.f.lt k), h.b.trans (hb.mono h.b.size), fun o' => by rw [hb.frozen (p := ⟨g, o', none⟩) h.lt]; exact h.fr o', Nat.lt_of_lt_of_le h.lt hb.size⟩
theorem keepK {w W W1 : World} {b o g k l : Nat} {x y : Value} {L : List Nat} (hb : Below W.heap.size W W1)
    (h : W.cell? ⟨g, k, none⟩ = some x ∧ W.cell? ⟨g, l, none⟩ = some y ∧ KK w b o g L W) : W1.cell? ⟨g, k, none⟩ = some x ∧ W1.cell? ⟨g, l, none⟩ = some y ∧ KK w b o g L W1 :=
  ⟨by rw [hb.cell (p := ⟨g, k, none⟩) (lt_of_cell h.1), h.1], by rw [hb.cell (p := ⟨g, l, none⟩) (lt_of_cell h.2.1), h.2.1], h.2.2.below hb⟩
/-- Without the last bit. -/
def cl (x : Nat) : Nat := x - x % 2
theorem cl_lt {x : Nat} (h : x < 18446744073709551616) : cl x < 18446744073709551616 := by unfold cl; omega
theorem clear_one (x : Nat) (h : x < 18446744073709551616) : bits .andNot .u64 (x : Int) 1 = ((cl x : Nat) : Int) := by
  have := u64_andNot_nat x 1 h (by decide)
  rw [show ((1 : Nat) : Int) = 1 from rfl] at this
  rw [this]
  congr 1
  unfold cl
  have e1 : (x &&& (18446744073709551615 - 1)) % 2 = 0 := by
    have : (x &&& (18446744073709551615 - 1)) % 2 ^ 1 = 0 := by rw [Nat.and_mod_two_pow]; simp
    simpa using this
  have e2 : (x &&& (18446744073709551615 - 1)) / 2 = x / 2 := by
    have : (x &&& (18446744073709551615 - 1)) / 2 ^ 1 = x / 2 ^ 1 &&& (18446744073709551615 - 1) / 2 ^ 1 := Nat.and_div_two_pow
    rw [Nat.pow_one] at this
    rw [this, show (18446744073709551615 - 1) / 2 = 2 ^ 63 - 1 from by decide, Nat.and_two_pow_sub_one_eq_mod, Nat.mod_eq_of_lt (by rw [show (2 : Nat) ^ 63 = 9223372036854775808 from by decide]; omega)]
  omega
/-- The floats the other way round, without their last bits. -/
def rev (L : List Nat) : List Nat := L.reverse.map cl
theorem rev_length (L : List Nat) : (rev L).length = L.length := by simp [rev]
theorem rev_get (L : List Nat) (k : Nat) (h : k < L.length) : (rev L)[k]'(by rw [rev_length]; exact h) = cl (L[L.length - 1 - k]'(by omega)) := by
  simp [rev, List.getElem_reverse]
theorem rev_small {L : List Nat} (h : Small L) : Small (rev L) := fun x hx => by
  obtain ⟨y, hy, rfl⟩ := List.mem_map.1 hx
  exact cl_lt (h y (List.mem_reverse.1 hy))
theorem RowF.set {w : World} {g k x : Nat} {M : List Nat} (h : RowF w g 0 M) (_hk : k < M.length) : RowF (w.setCell ⟨g, k, none⟩ (.float .f64 x)) g 0 (M.set k x) := by
  intro i hi
  rw [List.length_set] at hi
  rw [Nat.zero_add, List.getElem_set]
  have h0 := h i hi
  rw [Nat.zero_add] at h0
  by_cases e : k = i
  · subst e
    rw [if_pos rfl]
    exact World.cell?_setCell_same w _ _ h0
  · rw [if_neg e, World.cell?_setCell_other w ⟨g, k, none⟩ ⟨g, i, none⟩ _ (fun c => e (by injection c))]
    exact h0
theorem mix_set (R L : List Nat) (k : Nat) (hk : k < L.length) (hR : k < R.length) : (R.take k ++ L.drop k).set k R[k] = R.take (k + 1) ++ L.drop (k + 1) := by
  apply List.ext_getElem
  · simp; omega
  · intro i h1 h2
    rw [List.getElem_set]
    by_cases e : k = i
    · subst e
      rw [if_pos rfl, List.getElem_append_left (by simp; omega)]
      simp
    · rw [if_neg e]
      rcases Nat.lt_or_gt_of_ne e with c | c
      · rw [List.getElem_append_right (by simp; omega), List.getElem_append_right (by simp; omega)]
        simp only [List.getElem_drop, List.length_take]
        congr 1
        simp at h1
        omega
      · rw [List.getElem_append_left (by simp; omega), List.getElem_append_left (by simp; omega)]
        simp
theorem infoU : (Try.prog.info? 22).map (fun i => (i.zero, i.size, i.bytes)) = some (some (.int .u64 0), 1, 8) := by kernel_rfl
def uV64 (n : Nat) : Value := .int .u64 (n : Int)
theorem GB.rowU {B : Nat} {W0 v : _} {L : List Nat} {w : World} (h : GB B 22 uV64 W0 v L w) : ∃ g cap, v = .slice (some ⟨g, 0, none⟩) L.length cap ∧ B ≤ g ∧ RowU w g 0 L := by
  obtain ⟨g, cap, cur, rfl, hB, hcur, h1, h2, h3, h4⟩ := own_of h.own h.nz
  refine ⟨g, cap, rfl, hB, ?_⟩
  intro i hi
  have := h.own.cellAt i (by simpa using hi)
  rw [Nat.zero_add, this]
  simp [hi, uV64]
set_option maxHeartbeats 4000000 in
theorem keeps_walk (ao : Option Addr) (b o cap : Nat) (L : List Nat) (hao : L ≠ [] → ao = some ⟨b, o, none⟩) (hL : Small L) (hlen : L.length * 8 ≤ 140737488351232) (w : World) (hR : RowU w b o L) :
    Calls Try.prog 6 #[.slice ao L.length cap] w fun e w' => e = .returned (.bool true) ∧ Below w.heap.size w w' := by
  obtain ⟨i0, hi, hz0, hz1, hz2⟩ := info_parts infoF
  go_enter Try.func6, Try.ntmps6
  go_wp2_with (first
    | (go_at_call 15; with_reducible refine (floats_any ao b o cap L hao hL (by omega) w hR).mono ?_; rintro e w2 ⟨v, rfl, hG⟩)
    | (at_builtin; refine wpList_append_own _ rfl _ _ 36 rfl w.heap.size 33 i0 (.float .f64 0) 1 8 Try.underlying36 hi hz0 hz1 hz2 rfl (by decide) _ _ _ rfl (hG.own.alloc _) ⟨_, 0, none⟩ 2 2 [_, _] rfl rfl (cell_two_new _ _ _ _) (by intro u hu; simp at hu; rcases hu with rfl | rfl <;> rfl) (by unfold maxLen; omega) (by omega) (by have := hG.size; simp; omega) ?_; intro v' w' hown hgrow hnil; have hG2 := hG.push2 (x := 4619567317775286272) (y := 4620693217682128896) _ hown hgrow hnil; clear hown hgrow hnil hG))
  have hl2 : (L ++ [4619567317775286272, 4620693217682128896]).length = L.length + 2 := by simp
  obtain ⟨g, cap2, hv, hgB, hF, hcap, hmax, hfz⟩ := hG2.row2
  rw [hl2] at hv hcap
  subst hv
  unfold maxLen at hmax
  have hsl := slice_to 36 33 (some ⟨g, 0, none⟩) (L.length + 2) cap2 L.length Try.underlying36 (by omega) sizeF
  have hFL : RowF w' g 0 L := hF.pre
  have hBw := hG2.below
  have hR1 := hR.below hBw (fun h => hR.lt h)
  have hc7 : w'.cell? ⟨g, L.length, none⟩ = some (.float .f64 4619567317775286272) := by have := hF L.length (by simp); simpa using this
  have hc8 : w'.cell? ⟨g, L.length + 1, none⟩ = some (.float .f64 4620693217682128896) := by have := hF (L.length + 1) (by simp); simpa using this
  clear hG2 hF
  go_wp2_with (first | simp only [hsl] | (go_at_call 16; with_reducible refine (pof_any (some ⟨g, 0, none⟩) g 0 cap2 L (fun _ => rfl) hL (by omega) w' hFL).mono ?_; rintro e w3 ⟨r1, d1, n1, rfl, rfl, hr1, hd1, e1, e2⟩))
  have o7 : (FloatKind.f64.format.order 4619567317775286272 4619567317775286272 != some .eq) = false := by decide +kernel
  have o8 : (FloatKind.f64.format.order 4620693217682128896 4620693217682128896 != some .eq) = false := by decide +kernel
  have hcan := ofW_can L hL L.length
  have hltW := ofW_lt L L.length
  rw [List.take_length] at hcan hltW
  have hKK : KK w b o g L w' := ⟨hR1, hFL, hBw, hfz, lt_of_cell hc7⟩
  go_loopw [6] (fun a wr => ∃ k n : Nat, k ≤ L.length ∧ a = .int .i64 (k : Int) ∧ wr = w'.drewN n) (fun a _ => (L.length - (intOf a).toNat))
  case atStart => exact ⟨0, n1, by omega, rfl, rfl⟩
  case round =>
    obtain ⟨k, n, hk, rfl, rfl⟩ := hrel
    by_cases hlt : k < L.length
    · obtain rfl := hao (by intro k; rw [k] at hlt; simp at hlt)
      have q1 : w'.cell? ⟨g, k, none⟩ = some (.float .f64 L[k]) := by have := hFL k hlt; rw [Nat.zero_add] at this; exact this
      have q2 : w'.cell? ⟨b, o + k, none⟩ = some (.int .u64 ((L[k] : Nat) : Int)) := hR1 k hlt
      have hlt' : (k : Int) < (L.length : Int) := by omega
      have hmb := mf64bits L[k]
      generalize L[k] = x at *
      go_wp2_with fail
      go_quiet (fail)
      go_wp2_with fail
      go_round
      case rel => exact ⟨k + 1, _, by omega, by go_num, rfl⟩
      case measure => simp [intOf]; omega
    · obtain rfl : k = L.length := by omega
      have hlt' : ¬ (L.length : Int) < (L.length : Int) := by omega
      have HRO : Hid (∀ W, RowU W b o L → Calls Try.prog 17 #[.slice ao L.length cap] W fun e w' => e = .returned (.agg #[.int .u64 ((ofW L).1 : Nat), .int .u64 ((ofW L).2 : Nat)]) ∧ Below W.heap.size W w') := fun W h => refof_any ao b o cap L hao hL W (by omega) h
      have HS : Hid _ := samep_any r1 d1 _ _ hr1 hd1 hltW.1 hltW.2 (e1.trans hcan.1.symm) (e2.trans hcan.2.symm)
      have hK1 := hKK.below (below_drew w' n)
      go_wp2_with (first
          | (go_at_call 17; with_reducible refine (HRO.out _ (KK.u hK1)).mono ?_; rintro e w5 ⟨rfl, hb5⟩)
          | (go_at_call 8; with_reducible refine (HS.out _).mono ?_; rintro e w6 ⟨rfl, hb6⟩))
      have hK6 := (hK1.below hb5).below hb6
      clear hK1 hKK hb5 hb6 hc7 hc8 hR1 hFL hBw hfz HRO HS
      obtain ⟨j0, hj, hj0, hj1, hj2⟩ := info_parts infoU
      have hgl := hK6.lt
      have hbl : L ≠ [] → b < w.heap.size := fun h => hR.lt h
      have hB6 := hK6.b.size
      have hst : GB w6.heap.size 22 uV64 w6 (.slice (some ⟨w6.heap.size, 0, none⟩) 0 0) [] (w6.alloc (.cells #[] 22)) := GB.new w6
      have hK7 := hK6.below hst.below
      go_loopw [7, 8] (fun v a wr => ∃ k : Nat, k ≤ L.length ∧ a = .int .i64 (k : Int) ∧ GB w6.heap.size 22 uV64 wr v ((rev L).take k) wr ∧ RowF wr g 0 ((rev L).take k ++ L.drop k) ∧ Below w.heap.size w wr ∧ ∀ o, wr.frozen? ⟨g, o, none⟩ = false) (fun _ a _ => (L.length - (intOf a).toNat))
      case atStart => exact ⟨0, by omega, rfl, by rw [List.take_zero]; exact hst.rebase, by simpa using hK7.f, hK7.b, hK7.fr⟩
      case round =>
        clear hst hK7 hK6
        obtain ⟨k, hk, rfl, hG, hF, hB, hfr⟩ := hrel
        have hrl := rev_length L
        by_cases hlt : k < L.length
        · obtain rfl := hao (by intro k; rw [k] at hlt; simp at hlt)
          have hx : L[L.length - 1 - k] < 18446744073709551616 := hL _ (List.getElem_mem (by omega))
          have q2 : wr.cell? ⟨b, o + (L.length - 1 - k), none⟩ = some (.int .u64 ((L[L.length - 1 - k] : Nat) : Int)) := (hR.below hB (fun h => hR.lt h)) _ (by omega)
          have hcl := clear_one L[L.length - 1 - k] hx
          have ht : (rev L).take (k + 1) = (rev L).take k ++ [cl L[L.length - 1 - k]] := by rw [List.take_succ_eq_append_getElem (by omega), rev_get L k hlt]
          have HT : Hid _ := ht
          have HM : Hid _ := mix_set (rev L) L k hlt (by omega)
          rw [rev_get L k hlt] at HM
          have hl : ((rev L).take k).length = k := by rw [List.length_take]; omega
          have hidx : (L.length : Int) - 1 - (k : Int) = ((L.length - 1 - k : Nat) : Int) := by omega
          have hid2 : L.length - 1 - k < L.length := by omega
          have hlt' : (k : Int) < (L.length : Int) := by omega
          have q1 : ∃ y, wr.cell? ⟨g, k, none⟩ = some (.float .f64 y) := by
            have := hF k (by simp; omega)
            rw [Nat.zero_add] at this
            exact ⟨_, this⟩
          obtain ⟨y, q1⟩ := q1
          clear ht
          generalize L[L.length - 1 - k] = x at *
          generalize L.length - 1 - k = m at *
          go_wp2_with (first | (at_builtin; refine wpList_append_own _ rfl _ _ 25 rfl w6.heap.size 22 j0 (.int .u64 0) 1 8 Try.underlying25 hj hj0 hj1 hj2 rfl (by decide) _ _ _ rfl (hG.own.alloc _) ⟨_, 0, none⟩ 1 1 [_] rfl rfl (cell_one_new _ _ _) (by intro u hu; simp at hu; subst hu; rfl) (by unfold maxLen; omega) (by omega) (by have := hG.size; simp; omega) ?_; intro v' w7 hown hgrow hnil; have hG7 := hG.push (x := cl x) _ rfl hown hgrow hnil; clear hown hgrow hnil))
          obtain ⟨g2, cap3, hv2, hg2, hU⟩ := hG7.rowU
          have hl7 : ((rev L).take k ++ [cl x]).length = k + 1 := by rw [List.length_append, hl]; rfl
          rw [hl7] at hv2
          subst hv2
          have q3 : w7.cell? ⟨g2, k, none⟩ = some (.int .u64 ((cl x : Nat) : Int)) := by
            have h := hU k (by rw [hl7]; omega)
            rw [Nat.zero_add] at h
            rw [h, List.getElem_append_right (by omega)]
            simp
          have hB7 := hG7.below
          have q4 : w7.cell? ⟨g, k, none⟩ = some (.float .f64 y) := by rw [hB7.cell (p := ⟨g, k, none⟩) hgl, q1]
          have f4 : w7.frozen? ⟨g, k, none⟩ = false := by rw [hB7.frozen (p := ⟨g, k, none⟩) hgl]; exact hfr k
          have hk1 : (k : Int) < ((k + 1 : Nat) : Int) := by omega
          have HE : Hid (GB w6.heap.size 22 uV64 (w7.setCell ⟨g, k, none⟩ (.float .f64 (cl x))) (.slice (some ⟨g2, 0, none⟩) (k + 1) cap3) ((rev L).take (k + 1)) (w7.setCell ⟨g, k, none⟩ (.float .f64 (cl x))) ∧
              RowF (w7.setCell ⟨g, k, none⟩ (.float .f64 (cl x))) g 0 ((rev L).take (k + 1) ++ L.drop (k + 1)) ∧ Below w.heap.size w (w7.setCell ⟨g, k, none⟩ (.float .f64 (cl x))) ∧ ∀ o, (w7.setCell ⟨g, k, none⟩ (.float .f64 (cl x))).frozen? ⟨g, o, none⟩ = false) := by
            refine ⟨?_, ?_, ?_, ?_⟩
            · rw [HT.out]
              exact hG7.store (a := ⟨g, k, none⟩) hgl _
            · rw [← HM.out]
              exact (hF.below hB7 (fun _ => hgl)).set (by simp; omega)
            · exact (hB.trans (hB7.mono (by omega))).setCell (p := ⟨g, k, none⟩) hgB _
            · intro o'
              rw [World.frozen?_setCell, hB7.frozen (p := ⟨g, o', none⟩) hgl]
              exact hfr o'
          clear hG hF hU hG7 HM HT hcl q1 q2
          have hix := index_at 25 22 g2 (k + 1) cap3 k Try.underlying25 (by omega) sizeU
          have hsf := store_float w7 g k (cl x) _ q4 f4
          go_wp2_with (first | simp only [hix] | simp only [hsf] | simp only [mf64from, Int.toNat_natCast])
          go_round
          case rel => exact ⟨k + 1, by omega, by go_num, HE.out⟩
          case measure => simp [intOf]; omega
        · obtain rfl : k = L.length := by omega
          have hlt' : ¬ (L.length : Int) < (L.length : Int) := by omega
          rw [List.drop_length, List.append_nil] at hF
          have htk : (rev L).take L.length = rev L := by rw [← hrl, List.take_length]
          rw [htk] at hF hG
          obtain ⟨g2, cap3, hv2, hg2, hU⟩ := hG.rowU
          rw [hrl] at hv2
          subst hv2
          have HP := pof_any (some ⟨g, 0, none⟩) g 0 cap2 (rev L) (fun _ => rfl) (rev_small hL) (by omega) wr hF
          have HQ : Hid (∀ n, _) := fun n => refof_any (some ⟨g2, 0, none⟩) g2 0 cap3 (rev L) (fun _ => rfl) (rev_small hL) (wr.drewN n) (by omega) (hU.below (below_drew _ _) (fun h => hU.lt h))
          have hcn := ofW_can (rev L) (rev_small hL) (rev L).length
          have hlw := ofW_lt (rev L) (rev L).length
          rw [List.take_length] at hcn hlw
          rw [hrl] at HP HQ
          go_wp2_with (first
            | (go_at_call 16; with_reducible refine HP.mono ?_; rintro e w8 ⟨r8, d8, n8, rfl, rfl, hr8, hd8, e8, e9⟩)
            | (go_at_call 17; with_reducible refine (HQ.out _).mono ?_; rintro e w8 ⟨rfl, hb8⟩)
            | (go_at_call 8; with_reducible refine (samep_any _ _ _ _ hr8 hd8 hlw.1 hlw.2 (e8.trans hcn.1.symm) (e9.trans hcn.2.symm) _).mono ?_; rintro e w9 ⟨rfl, hb9⟩)
            | (go_at_call 21; with_reducible refine (fixed_any _).mono ?_; rintro e w10 ⟨rfl, hb10⟩))
          go_ret
          have z1 := hB.trans ((below_drew wr n8).mono hB.size)
          have z2 := z1.trans (hb8.mono z1.size)
          have z3 := z2.trans (hb9.mono z2.size)
          exact ⟨rfl, z3.trans (hb10.mono z3.size)⟩
end Go.Proofs.Ytfilaeameofiaaa
