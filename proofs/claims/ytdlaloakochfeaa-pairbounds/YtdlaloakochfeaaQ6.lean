/- ROWS THAT GROW; the law's own leaves. Own work of the verifier. -/
import Derived.Test.YtdlaloakochfeaaQ5
import Derived.Maps.AppendAt
import Derived.Deep.AppendLies
namespace Go.Proofs.Ytdlaloakochfeaa
open Go.RowKit Soft

/-- A row of the call's own (at B or behind it) that grows. -/
structure GB (B : Nat) (e : TypeId) (f : Nat → Value) (W0 : World) (v : Value) (xs : List Nat) (w : World) : Prop where
  own : w.ownsRow B e 1 v xs.length (xs.map f)
  nz : v ≠ .slice none 0 0
  below : Below B W0 w
  size : B ≤ w.heap.size
theorem own_of {w : World} {B : Nat} {e : TypeId} {v : Value} {n : Nat} {xs : List Value} (h : w.ownsRow B e 1 v n xs) (hn : v ≠ .slice none 0 0) : ∃ g cap cur, v = .slice (some ⟨g, 0, none⟩) n cap ∧ B ≤ g ∧ w.heap[g]? = some (.cells cur e) ∧ n ≤ cap ∧ cap ≤ maxLen ∧ cur.size = cap ∧ cur.toList.take n = xs := by
  rcases h.2 with h2 | ⟨g, cap, cur, hv, hg, hh, h3, h4, h5, h6⟩
  · exact absurd h2.1 hn
  · exact ⟨g, cap, cur, hv, hg, hh, h3, h4, by simpa using h5, by simpa using h6⟩
theorem GB.push {B : Nat} {e : TypeId} {f : Nat → Value} {W0 w w' : World} {v v' : Value} {xs : List Nat} {x : Nat} {y : Value} (h : GB B e f W0 v xs w) (ob : Obj) (hy : y = f x)
    (hown : w'.ownsRow B e 1 v' (xs.length + 1) (xs.map f ++ [y])) (hg : (w.alloc ob).grownBy w' v.ownBlock) (hnil : v' = .slice none 0 0 ↔ v = .slice none 0 0 ∧ 1 = 0) : GB B e f W0 v' (xs ++ [x]) w' := by
  obtain ⟨gv, cap, cur, rfl, hB, hcur, _⟩ := own_of h.own h.nz
  have hw := World.grownBy_alloc w ob none
  have hg' : (w.alloc ob).grownBy w' (some gv) := hg
  have s1 := hw.size
  have s2 := hg'.size
  refine ⟨?_, fun e => h.nz (hnil.1 e).1, ?_, by have := h.size; omega⟩
  · rw [List.length_append, List.map_append]; subst hy; exact hown
  · exact (h.below.grown hw h.size (fun k e => by cases e)).grown hg' (by have := h.size; omega) (fun k e => by cases e; exact hB)
theorem GB.drew {B : Nat} {e : TypeId} {f : Nat → Value} {W0 w : World} {v : Value} {xs : List Nat} (h : GB B e f W0 v xs w) : GB B e f W0 v xs w.drew := ⟨h.own, h.nz, h.below.drew, h.size⟩
theorem GB.new {e : TypeId} {f : Nat → Value} (w : World) : GB w.heap.size e f w (.slice (some ⟨w.heap.size, 0, none⟩) 0 0) [] (w.alloc (.cells #[] e)) := by
  refine ⟨⟨rfl, .inr ⟨w.heap.size, 0, #[], rfl, Nat.le_refl _, ?_, Nat.le_refl _, by unfold maxLen; omega, rfl, rfl⟩⟩, (fun h => by cases h), bel1 w _, by simp⟩
  show (w.heap.push _)[w.heap.size]? = _
  simp
theorem infoF : (Try.prog.info? 42).map (fun i => (i.zero, i.size, i.bytes)) = some (some (.float .f64 0), 1, 8) := by kernel_rfl
theorem floats_any (ao : Option Addr) (b o cap : Nat) (L : List Nat) (hao : L ≠ [] → ao = some ⟨b, o, none⟩) (hL : Small L) (hlen : L.length * 8 ≤ 140737488355328) (w : World) (hR : RowU w b o L) :
    Calls Try.prog 9 #[.slice ao L.length cap] w fun e w' => ∃ v, e = .returned v ∧ GB w.heap.size 42 (.float .f64) w v L w' := by
  obtain ⟨i0, hi, hz0, hz1, hz2⟩ := info_parts infoF
  go_enter Try.func9, Try.ntmps9
  go_wp2_with fail
  go_loopw [3, 4] (fun v a wr => ∃ i : Nat, i ≤ L.length ∧ a = .int .i64 (i : Int) ∧ GB w.heap.size 42 (.float .f64) w v (L.take i) wr) (fun _ a _ => (L.length - (intOf a).toNat))
  case atStart => exact ⟨0, by omega, rfl, by rw [List.take_zero]; exact GB.new w⟩
  case round =>
    obtain ⟨i, hi', rfl, hg⟩ := hrel
    by_cases hlt : i < L.length
    · obtain rfl := hao (by intro k; rw [k] at hlt; simp at hlt)
      have hx : L[i] < 18446744073709551616 := hL _ (List.getElem_mem hlt)
      have hc : wr.cell? ⟨b, o + i, none⟩ = some (.int .u64 ((L[i] : Nat) : Int)) := (hR.below hg.below (fun h => hR.lt h)) i hlt
      have hlt' : (i : Int) < (L.length : Int) := by omega
      have hl : (L.take i).length = i := by rw [List.length_take]; omega
      have ht : L.take (i + 1) = L.take i ++ [L[i]] := List.take_succ_eq_append_getElem hlt
      have HT : Hid _ := ht
      clear ht
      generalize L[i] = x at *
      go_wp2_with (first | simp only [mf64from, Int.toNat_natCast] | (at_builtin; refine wpList_append_own _ rfl _ _ 36 rfl w.heap.size 42 i0 (.float .f64 0) 1 8 Try.underlying36 hi hz0 hz1 hz2 rfl (by decide) _ _ _ rfl (hg.own.alloc _) ⟨_, 0, none⟩ 1 1 [_] rfl rfl (cell_one_new _ _ _) (by intro u hu; simp at hu; subst hu; rfl) (by unfold maxLen; omega) (by omega) (by have := hg.size; simp; omega) ?_; intro v' w' hown hgrow hnil; have hg' := hg.push (x := x) _ rfl hown hgrow hnil; clear hown hgrow hnil))
      go_round
      case rel => exact ⟨i + 1, by omega, by go_num, by rw [HT.out]; exact hg'⟩
      case measure => simp [intOf]; omega
    · obtain rfl : i = L.length := by omega
      rw [List.take_length] at hg
      have hlt' : ¬ (L.length : Int) < (L.length : Int) := by omega
      go_wp2
      go_ret
      exact ⟨_, rfl, hg⟩
end Go.Proofs.Ytdlaloakochfeaa
