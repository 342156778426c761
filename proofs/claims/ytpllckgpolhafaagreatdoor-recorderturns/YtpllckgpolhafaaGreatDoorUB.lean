/- A SLAB WITH ANY CONTENTS; Add. Own work of the verifier. -/
import Derived.Test.YtpllckgpolhafaaGreatDoorS14
import Derived.Test.YtpllckgpolhafaaGreatDoorUF
namespace Go.Proofs.YtpllckgpolhafaaGreatDoor
open Go.RowKit

/-- A word as a number without sign. -/
abbrev uw (x : Int) : Int := IntKind.u64.wrap x
theorem uw_eq (x : Int) : uw x = x % 18446744073709551616 := IntKind.wrap_u64 x
theorem in_wrap (x : Int) : In64 (wrap64 x) := by unfold wrap64; constructor <;> omega
/-- What a row's sum becomes. -/
def adW : List Int → Int → List Int
  | lo :: hi :: r, n => wrap64 (lo + n) :: (if 18446744073709551616 ≤ uw lo + n then wrap64 (hi + 1) else hi) :: r
  | l, _ => l
theorem adW_len (l : List Int) (n : Int) : (adW l n).length = l.length := by
  unfold adW; split <;> simp
set_option maxHeartbeats 1000000 in
theorem addSum_any (g cap : Nat) (lo hi n : Int) (rest : List Int) (w : World) (h : RowW w g (lo :: hi :: rest)) (hl : In64 lo) (hh : In64 hi) (hn : 0 ≤ n) (hn1 : n < 9223372036854775808) :
    Calls Tryz.prog 220 #[.pointer none, .slice (some ⟨g, 0, none⟩) (rest.length + 2) cap, .int .i64 n] w fun e w' => e = .returned (.tuple #[]) ∧ Hid (RowW w' g (adW (lo :: hi :: rest) n)) ∧ Hid (Mid g (g + 1) w w') := by
  have HA : Hid (∀ _ : Unit, _) := fun _ => wadd_row g 0 (lo :: hi :: rest) lo n w h (by simp) rfl hl.1 hl.2 (wrap64 (lo + n) :: hi :: rest) rfl
  have HB : Hid (∀ W, RowW W g (wrap64 (lo + n) :: hi :: rest) → _) := fun W hW => wadd_row g 1 (wrap64 (lo + n) :: hi :: rest) hi 1 W hW (by simp) rfl hh.1 hh.2 (wrap64 (lo + n) :: wrap64 (hi + 1) :: rest) rfl
  have hu0 : 0 ≤ uw lo := by rw [uw_eq]; omega
  have hu1 : uw lo < 18446744073709551616 := by rw [uw_eq]; omega
  have hun : IntKind.u64.wrap n = n := by rw [IntKind.wrap_u64]; omega
  have ha := add64_0 (uw lo) n hu0 hn
  have HM : Hid (∀ a b, Mid g (g + 1) w a → Mid g (g + 1) a b → Mid g (g + 1) w b) := fun a b h1 h2 => h1.trans h2
  clear h
  by_cases hc : 18446744073709551616 ≤ uw lo + n
  · have e : adW (lo :: hi :: rest) n = wrap64 (lo + n) :: wrap64 (hi + 1) :: rest := by simp only [adW, if_pos hc]
    rw [e]
    have hd : (uw lo + n) / 18446744073709551616 = 1 := by omega
    rw [hd] at ha
    generalize wrap64 (lo + n) = z at *
    generalize wrap64 (hi + 1) = y at *
    go_enter Tryz.func220, Tryz.ntmps220
    go_wp2_with (first | (go_at_call 56; with_reducible refine (HA.out ()).mono ?_; rintro e w1 ⟨rfl, HR1, HM1⟩) | (go_at_call 56; with_reducible refine (HB.out _ HR1.out).mono ?_; rintro e w2 ⟨rfl, HR2, HM2⟩))
    first | go_end0 | refine bodyPost_ret (results_none rfl _ _ _) rfl ?_
    exact ⟨rfl, HR2, HM.out _ _ HM1.out HM2.out⟩
  · have e : adW (lo :: hi :: rest) n = wrap64 (lo + n) :: hi :: rest := by simp only [adW, if_neg hc]
    rw [e]
    have hd : (uw lo + n) / 18446744073709551616 = 0 := by omega
    rw [hd] at ha
    generalize wrap64 (lo + n) = z at *
    clear HB
    go_enter Tryz.func220, Tryz.ntmps220
    go_wp2_with (go_at_call 56; with_reducible refine (HA.out ()).mono ?_; rintro e w1 ⟨rfl, HR1, HM1⟩)
    first | go_end0 | refine bodyPost_ret (results_none rfl _ _ _) rfl ?_
    exact ⟨rfl, HR1, HM1⟩
/-- A slab with any contents: of each buffer and stripe its words. -/
structure SlG (T : TypeId) (s c : Nat) (h : Nat → Nat) (G : Nat → List Nat) (C : Nat → Nat → List Int) (wd n : Nat) (w : World) : Prop where
  slab : w.cell? ⟨s, 0, none⟩ = some (.iface T (.pointer (some ⟨c, 0, none⟩)))
  held : ∀ b, b < 2 → ∃ cap, w.cell? ⟨c, b, none⟩ = some (.slice (some ⟨h b, 0, none⟩) n cap)
  rows : ∀ b, b < 2 → ∀ i (hi : i < (G b).length), w.cell? ⟨h b, i, none⟩ = some (slc wd (G b)[i])
  len : ∀ b, b < 2 → (G b).length = n
  nd : (G 0 ++ G 1).Nodup
  s_ne : s ∉ G 0 ++ G 1
  c_ne : c ∉ G 0 ++ G 1
  h_ne : ∀ b, b < 2 → h b ∉ G 0 ++ G 1
  left : ∀ b, b < 2 → ∀ i (hi : i < (G b).length), RowW w (G b)[i] (C b i)
  wid : ∀ b, b < 2 → ∀ i, i < n → (C b i).length = wd
theorem SlabAt.gen {T : TypeId} {s c : Nat} {h : Nat → Nat} {G : Nat → List Nat} {X : List Int} {n : Nat} {w : World} (H : SlabAt T s c h G (fun _ => X) n w) : SlG T s c h G (fun _ _ => X) X.length n w :=
  ⟨H.slab, H.held, H.rows, H.len, H.nd, H.s_ne, H.c_ne, H.h_ne, fun b hb _i hi => H.left b hb _ (List.getElem_mem hi), fun _ _ _ _ => rfl⟩
/-- One row holds others now. -/
def upC (C : Nat → Nat → List Int) (b i : Nat) (ys : List Int) : Nat → Nat → List Int := fun b' i' => if b' = b ∧ i' = i then ys else C b' i'
theorem upC_at (C : Nat → Nat → List Int) (b i : Nat) (ys : List Int) : upC C b i ys b i = ys := if_pos ⟨rfl, rfl⟩
theorem upC_ne (C : Nat → Nat → List Int) (b i b' i' : Nat) (ys : List Int) (h : ¬ (b' = b ∧ i' = i)) : upC C b i ys b' i' = C b' i' := if_neg h
/-- Blocks that are no rows of the slab may change. -/
theorem SlG.chg {T : TypeId} {s c : Nat} {h : Nat → Nat} {G : Nat → List Nat} {C : Nat → Nat → List Int} {wd n : Nat} {w w' : World} (H : SlG T s c h G C wd n w) (k : ∀ x, x < w.heap.size → (x = s ∨ x = c ∨ x = h 0 ∨ x = h 1 ∨ x ∈ G 0 ++ G 1) → w'.heap[x]? = w.heap[x]?) : SlG T s c h G C wd n w' := by
  have kc : ∀ (a : Addr) (u : Value), w.cell? a = some u → (a.block = s ∨ a.block = c ∨ a.block = h 0 ∨ a.block = h 1 ∨ a.block ∈ G 0 ++ G 1) → w'.cell? a = some u := fun a u hc ha => (World.cell?_of_block (k a.block (lt_of_cell hc) ha)).trans hc
  refine ⟨kc _ _ H.slab (Or.inl rfl), fun b hb => ?_, fun b hb i hi => ?_, H.len, H.nd, H.s_ne, H.c_ne, H.h_ne, fun b hb i hi => ?_, H.wid⟩
  · obtain ⟨cap, hc⟩ := H.held b hb
    exact ⟨cap, kc _ _ hc (Or.inr (Or.inl rfl))⟩
  · refine kc _ _ (H.rows b hb i hi) ?_
    rcases (show b = 0 ∨ b = 1 by omega) with rfl | rfl
    · exact Or.inr (Or.inr (Or.inl rfl))
    · exact Or.inr (Or.inr (Or.inr (Or.inl rfl)))
  · have hr := H.left b hb i hi
    have := k _ hr.lt (Or.inr (Or.inr (Or.inr (Or.inr (mem_of hb (List.getElem_mem hi))))))
    unfold RowW at *; rw [this]; exact hr
theorem SlG.below {T : TypeId} {s c : Nat} {h : Nat → Nat} {G : Nat → List Nat} {C : Nat → Nat → List Int} {wd n : Nat} {w w' : World} (H : SlG T s c h G C wd n w) (hb : Below w.heap.size w w') : SlG T s c h G C wd n w' := H.chg fun x hx _ => hb.block x hx
theorem SlG.same {T : TypeId} {s c : Nat} {h : Nat → Nat} {G : Nat → List Nat} {C C' : Nat → Nat → List Int} {wd n : Nat} {w : World} (H : SlG T s c h G C wd n w) (hC : ∀ b, b < 2 → ∀ i, i < n → C b i = C' b i) : SlG T s c h G C' wd n w :=
  ⟨H.slab, H.held, H.rows, H.len, H.nd, H.s_ne, H.c_ne, H.h_ne, fun b hb i hi => by rw [← hC b hb i (by rw [← H.len b hb]; exact hi)]; exact H.left b hb i hi, fun b hb i hi => by rw [← hC b hb i hi]; exact H.wid b hb i hi⟩
theorem nd_ne {G : Nat → List Nat} (hnd : (G 0 ++ G 1).Nodup) {b b' i i' : Nat} (hb : b < 2) (hb' : b' < 2) (hi : i < (G b).length) (hi' : i' < (G b').length) (hne : ¬ (b' = b ∧ i' = i)) : (G b')[i'] ≠ (G b)[i] := by
  have hn := List.nodup_append.1 hnd
  by_cases e : b' = b
  · subst e
    have hii : i' ≠ i := fun e2 => hne ⟨rfl, e2⟩
    have hndb : (G b').Nodup := by
      rcases (show b' = 0 ∨ b' = 1 by omega) with rfl | rfl
      · exact hn.1
      · exact hn.2.1
    intro e2
    rcases Nat.lt_or_gt_of_ne hii with hlt | hlt
    · exact List.pairwise_iff_getElem.1 hndb i' i hi' hi hlt e2
    · exact List.pairwise_iff_getElem.1 hndb i i' hi hi' hlt e2.symm
  · rcases (show b = 0 ∨ b = 1 by omega) with rfl | rfl
    · obtain rfl : b' = 1 := by omega
      exact fun e2 => hn.2.2 _ (List.getElem_mem hi) _ (List.getElem_mem hi') e2.symm
    · obtain rfl : b' = 0 := by omega
      exact fun e2 => hn.2.2 _ (List.getElem_mem hi') _ (List.getElem_mem hi) e2
theorem SlG.put {T : TypeId} {s c : Nat} {h : Nat → Nat} {G : Nat → List Nat} {C : Nat → Nat → List Int} {wd n : Nat} {w w' : World} (H : SlG T s c h G C wd n w) {b i : Nat} (hb : b < 2) (hi : i < (G b).length) {ys : List Int} (hy : ys.length = wd) (hr : RowW w' (G b)[i] ys) (hm : Mid (G b)[i] ((G b)[i] + 1) w w') : SlG T s c h G (upC C b i ys) wd n w' := by
  have hg : (G b)[i] ∈ G 0 ++ G 1 := mem_of hb (List.getElem_mem hi)
  have kb : ∀ x, x < w.heap.size → x ≠ (G b)[i] → w'.heap[x]? = w.heap[x]? := fun x hx hne => hm.block x hx (by omega)
  have kc : ∀ (a : Addr) (u : Value), w.cell? a = some u → a.block ≠ (G b)[i] → w'.cell? a = some u := fun a u hc ha => (World.cell?_of_block (kb a.block (lt_of_cell hc) ha)).trans hc
  refine ⟨kc _ _ H.slab (fun e => H.s_ne (by rw [show s = (G b)[i] from e]; exact hg)), fun b' hb' => ?_, fun b' hb' i' hi' => kc _ _ (H.rows b' hb' i' hi') (fun e => H.h_ne b' hb' (by rw [show h b' = (G b)[i] from e]; exact hg)), H.len, H.nd, H.s_ne, H.c_ne, H.h_ne, fun b' hb' i' hi' => ?_, fun b' hb' i' hi' => ?_⟩
  · obtain ⟨cap, hc⟩ := H.held b' hb'
    exact ⟨cap, kc _ _ hc (fun e => H.c_ne (by rw [show c = (G b)[i] from e]; exact hg))⟩
  · by_cases e : b' = b ∧ i' = i
    · obtain ⟨rfl, rfl⟩ := e
      rw [upC_at]; exact hr
    · rw [upC_ne _ _ _ _ _ _ e]
      have hr' := H.left b' hb' i' hi'
      have := kb _ hr'.lt (nd_ne H.nd hb hb' hi hi' e)
      unfold RowW at *; rw [this]; exact hr'
  · by_cases e : b' = b ∧ i' = i
    · obtain ⟨rfl, rfl⟩ := e
      rw [upC_at]; exact hy
    · rw [upC_ne _ _ _ _ _ _ e]; exact H.wid b' hb' i' hi'
set_option maxHeartbeats 1000000 in
theorem row_ok (c h g n cap wd : Nat) (b i : Nat) (hb : b < 2) (hi : i < n) (_hn : n ≤ 16) (w : World) (h0 : w.cell? ⟨c, b, none⟩ = some (.slice (some ⟨h, 0, none⟩) n cap)) (h1 : w.cell? ⟨h, i, none⟩ = some (slc wd g)) :
    Calls Tryz.prog 219 #[.pointer (some ⟨c, 0, none⟩), .int .i64 (b : Int), .int .i64 (i : Int), .bool true] w fun e w' => e = .returned (.tuple #[slc wd g, .int .i64 0]) ∧ w' = w := by
  have HB : Hid (∀ W, _) := isbuf_any b (by omega) (by omega)
  have e1 : ¬ (i : Int) < 0 := by omega
  have e2 : (i : Int) < (n : Int) := by omega
  go_enter Tryz.func219, Tryz.ntmps219
  go_wp2_with (go_at_call 37; refine (HB.out _).mono ?_; rintro e w1 ⟨rfl, rfl⟩)
  go_ret2
  exact ⟨rfl, rfl⟩
set_option maxHeartbeats 1000000 in
theorem row_range (c h n cap : Nat) (b i : Nat) (hb : b < 2) (hi : i < n) (_hn : n ≤ 16) (w : World) (h0 : w.cell? ⟨c, b, none⟩ = some (.slice (some ⟨h, 0, none⟩) n cap)) :
    Calls Tryz.prog 219 #[.pointer (some ⟨c, 0, none⟩), .int .i64 (b : Int), .int .i64 (i : Int), .bool false] w fun e w' => e = .returned (.tuple #[.slice none 0 0, .int .i64 2]) ∧ w' = w := by
  have HB : Hid (∀ W, _) := isbuf_any b (by omega) (by omega)
  have e1 : ¬ (i : Int) < 0 := by omega
  have e2 : (i : Int) < (n : Int) := by omega
  go_enter Tryz.func219, Tryz.ntmps219
  go_wp2_with (go_at_call 37; refine (HB.out _).mono ?_; rintro e w1 ⟨rfl, rfl⟩)
  go_ret2
  exact ⟨rfl, rfl⟩
set_option maxHeartbeats 1000000 in
theorem row_arg (c h n cap : Nat) (b : Nat) (i : Int) (hb : b < 2) (hi : i < 0 ∨ (n : Int) ≤ i) (_hn : n ≤ 16) (m : Bool) (w : World) (h0 : w.cell? ⟨c, b, none⟩ = some (.slice (some ⟨h, 0, none⟩) n cap)) :
    Calls Tryz.prog 219 #[.pointer (some ⟨c, 0, none⟩), .int .i64 (b : Int), .int .i64 i, .bool m] w fun e w' => e = .returned (.tuple #[.slice none 0 0, .int .i64 1]) ∧ w' = w := by
  have HB : Hid (∀ W, _) := isbuf_any b (by omega) (by omega)
  by_cases e1 : i < 0
  · clear hi
    go_enter Tryz.func219, Tryz.ntmps219
    go_wp2_with (go_at_call 37; refine (HB.out _).mono ?_; rintro e w1 ⟨rfl, rfl⟩)
    go_ret2
    exact ⟨rfl, rfl⟩
  · have e2 : ¬ i < (n : Int) := by omega
    clear hi
    go_enter Tryz.func219, Tryz.ntmps219
    go_wp2_with (go_at_call 37; refine (HB.out _).mono ?_; rintro e w1 ⟨rfl, rfl⟩)
    go_ret2
    exact ⟨rfl, rfl⟩
end Go.Proofs.YtpllckgpolhafaaGreatDoor
