/- Merge, the document's. Own work of the verifier. -/
import Derived.Test.YthhoklgfgandpaaC9
namespace Go.Proofs.Ythhoklgfgandpaa
open Go.RowKit

/-- What Merge tells. -/
def Md (W : World) (L : List Cn) (e : Ending) (w' : World) : Prop := ∃ v' O, e = .returned v' ∧ IsMerge O L ∧ GC W.heap.size W v' O w'
/-- sorted of a row of one's own. -/
theorem sorted_gc {B : Nat} {W0 w : World} {v : Value} {L : List Cn} (h : GC B W0 v L w) (hl : L.length ≤ 4194304) : Calls Try.prog 39 #[v] w fun e w' => Sd w L e w' := by
  have hsc := h.sc
  rcases h.own.2 with ⟨rfl, hn⟩ | ⟨g, cap, cur, rfl, _, _, hc, _⟩
  · have : L = [] := List.length_eq_zero_iff.1 hn
    subst this
    exact sorted_nil w
  · obtain ⟨ao, b, o, cap', hv, ha, hr⟩ := hsc
    cases hv
    by_cases hne : L = []
    · subst hne
      exact sorted_any 0 [] g 0 cap w (by simp) (by simp) hc (fun i hi => by simp at hi)
    · have := ha hne
      cases this
      exact sorted_any L.length L _ _ cap w (Nat.le_refl _) hl hc hr
theorem sd_gen {W w' : World} {L : List Cn} {e : Ending} (h : Sd W L e w') : ∃ ao b o cap S, e = .returned (.slice ao S.length cap) ∧ (S ≠ [] → ao = some ⟨b, o, none⟩) ∧ Srt S ∧ S.Perm L ∧ RowC w' b o S ∧ Below W.heap.size W w' := by
  obtain ⟨v', S, rfl, hs, hp, hg⟩ := h
  obtain ⟨ao, b, o, cap, rfl, ha, hr⟩ := hg.sc
  exact ⟨ao, b, o, cap, S, rfl, ha, hs, hp, hr, hg.below⟩
/-- What lies in memory while a group is summed. -/
structure MC (w3 : World) (gc : Nat) (O : List Cn) (b3 o3 : Nat) (S : List Cn) (x : Int) (N : Nat) (vO : Value) (W : World) : Prop where
  c0 : W.cell? ⟨gc, 0, none⟩ = some (.int .i64 x)
  c1 : W.cell? ⟨gc, 1, none⟩ = some (.int .u64 (N : Int))
  fr : ∀ o, W.frozen? ⟨gc, o, none⟩ = false
  g : GC w3.heap.size w3 vO O W
  r : RowC W b3 o3 S
  ne : ∀ g cap n, vO = .slice (some ⟨g, 0, none⟩) n cap → g ≠ gc
  nb : S ≠ [] → b3 ≠ gc
  le : w3.heap.size ≤ gc
theorem GC.lt {B : Nat} {W0 w : World} {vO : Value} {O : List Cn} (h : GC B W0 vO O w) {g n cap : Nat} (hv : vO = .slice (some ⟨g, 0, none⟩) n cap) : g < w.heap.size := by
  rcases h.own.2 with ⟨k, _⟩ | ⟨g', cap', cur, hv', _, hh, _⟩
  · rw [k] at hv; cases hv
  · rw [hv'] at hv
    cases hv
    rcases Nat.lt_or_ge g w.heap.size with c | c
    · exact c
    · rw [Array.getElem?_eq_none c] at hh; cases hh
theorem GC.alloc {B : Nat} {W0 w : World} {vO : Value} {O : List Cn} (h : GC B W0 vO O w) (ob : Obj) : GC B W0 vO O (w.alloc ob) := ⟨h.own.alloc _, h.below.alloc h.size _, by have := h.size; simp; omega⟩
theorem gc_drewN {B : Nat} {W0 w : World} {v : Value} {xs : List Cn} (h : GC B W0 v xs w) (n : Nat) : GC B W0 v xs (w.drewN n) := by
  induction n with
  | zero => exact h
  | succ n ih => exact ih.drew
theorem mc_new {w3 w : World} {vO : Value} {O : List Cn} {b3 o3 : Nat} {S : List Cn} (hG : GC w3.heap.size w3 vO O w) (hR : RowC w b3 o3 S) (x : Int) : MC w3 w.heap.size O b3 o3 S x 0 vO (w.alloc (.cells #[.int .i64 x, .int .u64 0] 49)) := by
  have hh : (w.alloc (.cells #[.int .i64 x, .int .u64 0] 49)).heap[w.heap.size]? = some (.cells #[.int .i64 x, .int .u64 0] 49) := by
    show (w.heap.push _)[w.heap.size]? = _
    simp
  refine ⟨by simp [go_sem], by simp [go_sem], fun o => by unfold World.frozen?; rw [hh]; simp, hG.alloc _, hR.below ((Below.refl w.heap.size w).alloc (Nat.le_refl _) _) (fun k => hR.lt k), fun g cap n hv => ?_, fun k => ?_, hG.size⟩
  · have := hG.lt hv; omega
  · have := hR.lt k; omega
theorem MC.drew {w3 : World} {gc : Nat} {O : List Cn} {b3 o3 : Nat} {S : List Cn} {x : Int} {N : Nat} {vO : Value} {W : World} (h : MC w3 gc O b3 o3 S x N vO W) : MC w3 gc O b3 o3 S x N vO W.drew := ⟨h.c0, h.c1, h.fr, h.g.drew, h.r, h.ne, h.nb, h.le⟩
theorem MC.store {w3 : World} {gc : Nat} {O : List Cn} {b3 o3 : Nat} {S : List Cn} {x : Int} {N : Nat} {vO : Value} {W : World} (h : MC w3 gc O b3 o3 S x N vO W) (M : Nat) : MC w3 gc O b3 o3 S x M vO (W.setCell ⟨gc, 1, none⟩ (.int .u64 (M : Int))) := by
  refine ⟨?_, World.cell?_setCell_same _ _ _ h.c1, fun o => ?_, ⟨⟨h.g.own.1, ?_⟩, h.g.below.setCell h.le _, by rw [World.size_setCell]; exact h.g.size⟩, fun i hi => ?_, h.ne, h.nb, h.le⟩
  · rw [World.cell?_setCell_other _ _ _ _ (by intro e; cases e)]; exact h.c0
  · rw [World.frozen?_setCell]; exact h.fr o
  · rcases h.g.own.2 with k | ⟨g, cap, cur, hv, hB, hh, hrest⟩
    · exact Or.inl k
    · refine Or.inr ⟨g, cap, cur, hv, hB, ?_, hrest⟩
      rw [Below.heap_setCell _ _ _ _ (h.ne g cap _ hv)]
      exact hh
  · have hne : b3 ≠ gc := h.nb (fun e => by rw [e] at hi; simp at hi)
    rw [World.cell?_setCell_other _ _ _ _ (fun e => hne (congrArg Addr.block e).symm), World.cell?_setCell_other _ _ _ _ (fun e => hne (congrArg Addr.block e).symm)]
    exact h.r i hi
theorem key_cut {S : List Cn} {i : Nat} {x : Int} (hc : Cut S i) (hi : i < S.length) (hx : x = S[i].1) : key (S.take i) x % 18446744073709551616 = 0 := by
  rw [key_none fun c hcm => ?_]
  have := hc c hcm (S[i]) (by rw [List.drop_eq_getElem_cons hi]; exact List.mem_cons_self)
  omega
set_option maxRecDepth 10000 in
set_option maxHeartbeats 4000000 in
theorem merge_some (a1 : Addr) (A : List Cn) (ca : Nat) (a2 : Addr) (C : List Cn) (cb : Nat) (hlA : A.length ≤ 1048576) (hlC : C.length ≤ 1048576) (w : World) (hA : ∀ j u, (fl A)[j]? = some u → w.cell? (a1.add j) = some u) (hC : ∀ W, Below w.heap.size w W → ∀ j u, (fl C)[j]? = some u → W.cell? (a2.add j) = some u) (hW : Wc (A ++ C)) :
    Calls Try.prog 17 #[.slice (some a1) A.length ca, .slice (some a2) C.length cb] w fun e w' => Md w (A ++ C) e w' := by
  obtain ⟨i0, hi, hz0, hz1, hz2⟩ := info_parts infoC
  have HA : Hid _ := hA
  have HC : Hid _ := hC
  clear hA hC
  go_enter Try.func17, Try.ntmps17
  go_wp2_with (first
    | (at_builtin; refine wpList_append_own _ rfl _ _ 23 rfl w.heap.size 49 i0 (.agg #[.int .i64 0, .int .u64 0]) 2 16 Try.underlying23 hi hz0 hz1 hz2 rfl (by decide) _ _ _ rfl (own_nil _ _) a1 A.length ca (fl A) rfl (fl_length A) HA.out (fl_one A) (by unfold maxLen; omega) (by omega) (by omega) ?_; intro v' w' hown hgrow hnil; have hg' := gc_of hown hgrow; clear hown hgrow hnil)
    | (at_builtin; refine wpList_append_own _ rfl _ _ 23 rfl w.heap.size 49 i0 (.agg #[.int .i64 0, .int .u64 0]) 2 16 Try.underlying23 hi hz0 hz1 hz2 rfl (by decide) _ _ _ rfl hg'.own a2 C.length cb (fl C) rfl (fl_length C) (HC.out _ hg'.below) (fl_one C) (by unfold maxLen; omega) (by omega) hg'.size ?_; intro v'' w'' hown hgrow hnil; have hg'' := hg'.grow (ys := C) hg'.below hg'.size hown hgrow; clear hown hgrow hnil)
    | (go_at_call 39; refine (sorted_gc hg'' (by rw [List.length_append]; omega)).mono ?_; rintro e w3 hsd; obtain ⟨ao3, b3, o3, c3, S, rfl, hao3, hs3, hp3, hr3, hb3⟩ := sd_gen hsd))
  have HS : Hid (Srt S) := hs3
  have HP : Hid (S.Perm (A ++ C)) := hp3
  have hSl : S.length ≤ 2097152 := by rw [hp3.length_eq, List.length_append]; omega
  have HR3 : Hid (RowC w3 b3 o3 S) := hr3
  have HB3 : Hid (Below w.heap.size w w3) := bt hg''.below hb3
  have hWS : Wc S := fun c hc => hW c (hp3.mem_iff.1 hc)
  have HWS : Hid _ := hWS
  clear hs3 hp3 hr3 hb3 hsd hg' hg'' hWS
  go_loopw [6, 7] (fun v a wr => ∃ (i : Nat) (O : List Cn), i ≤ S.length ∧ a = .int .i64 (i : Int) ∧ Hid (GC w3.heap.size w3 v O wr) ∧ Hid (IsMerge O (S.take i) ∧ (∀ c ∈ O, ∀ d ∈ S.drop i, c.1 < d.1) ∧ Cut S i) ∧ O.length ≤ i) (fun _ a _ => S.length - (intOf a).toNat)
  case atStart => exact ⟨0, [], by omega, rfl, gc_new w3, ⟨isMerge_nil, (fun c hc => by cases hc), cut_zero S⟩, by simp⟩
  case round =>
    obtain ⟨i, O, hil, rfl, hG, hM, hOl⟩ := hrel
    by_cases hlt : i < S.length
    · obtain rfl := hao3 (by intro e; rw [e] at hlt; simp at hlt)
      have hlt' : (i : Int) < (S.length : Int) := by omega
      have hbw : Below w3.heap.size w3 wr := hG.out.below
      have hrw := HR3.out.below hbw (fun k => HR3.out.lt k)
      obtain ⟨q1, q2⟩ := hrw i hlt
      have HX : Hid (∃ x, x = S[i].1) := ⟨_, rfl⟩
      obtain ⟨x, hx⟩ := HX.out
      rw [← hx] at q1
      have Hx : Hid _ := hx
      clear hx HX q2
      have HRW : Hid (RowC wr b3 o3 S) := hrw
      clear hrw hbw
      have hMC : Hid (MC w3 wr.heap.size O b3 o3 S x 0 _ (wr.alloc (.cells #[.int .i64 x, .int .u64 0] 49))) := mc_new hG.out HRW.out x
      go_wp2_with fail
      generalize wr.heap.size = gc at hMC ⊢
      go_loopw [7] (fun a wr => ∃ j N : Nat, i ≤ j ∧ j ≤ S.length ∧ a = .int .i64 (j : Int) ∧ N < 18446744073709551616 ∧ Hid (MC w3 gc O b3 o3 S x N _ wr) ∧ Hid (Run S i j x ∧ N = key (S.take j) x % 18446744073709551616)) (fun a _ => S.length - (intOf a).toNat)
      case atStart => exact ⟨i, 0, Nat.le_refl _, by omega, rfl, by decide, hMC, ⟨fun t _ h1 h2 => by omega, by rw [key_cut hM.out.2.2 hlt Hx.out]⟩⟩
      case round =>
        obtain ⟨j, N, hij, hjl, rfl, hN, hK, hR⟩ := hrel
        have k0 := hK.out.c0
        have k1 := hK.out.c1
        have f1 := hK.out.fr 1
        by_cases hjt : j < S.length
        · have hjt' : (j : Int) < (S.length : Int) := by omega
          obtain ⟨r1, r2⟩ := hK.out.r j hjt
          by_cases hxe : S[j].1 = x
          · have HRn : Hid (Run S i (j + 1) x ∧ (N + S[j].2) % 18446744073709551616 = key (S.take (j + 1)) x % 18446744073709551616) := ⟨fun t ht h1 h2 => by
                by_cases e : t = j
                · subst e; exact hxe
                · exact hR.out.1 t ht h1 (by omega), by rw [key_take S hjt, if_pos hxe, hR.out.2]; omega⟩
            rw [hxe] at r1
            have hbe : (x == x) = true := by simp
            generalize S[j].2 = y at *
            clear hxe
            have hw : IntKind.u64.wrap ((N : Int) + (y : Int)) = (((N + y) % 18446744073709551616 : Nat) : Int) := by rw [IntKind.wrap_u64]; omega
            have hMl : (N + y) % 18446744073709551616 < 18446744073709551616 := Nat.mod_lt _ (by decide)
            generalize (N + y) % 18446744073709551616 = M at *
            go_wp2_with fail
            go_region
            go_wp2_with fail
            go_region_with fail
            all_goals
              go_wp2_with fail
              exact ⟨⟨j + 1, M, by omega, by omega, by go_num, hMl, (hK.out.store M).drew.drew, HRn⟩, by simp [intOf]; omega⟩
          · have hij2 : i < j := by
              rcases Nat.eq_or_lt_of_le hij with e | e
              · subst e; exact absurd Hx.out.symm hxe
              · exact e
            have hbe : (S[j].1 == x) = false := by rw [beq_eq_false_iff_ne]; exact hxe
            have HCut : Hid (Cut S j) := cut_next HS.out hij2 hjl hM.out.2.2 hR.out.1 (fun _ => hxe)
            have HMn : Hid (IsMerge (if N ≠ 0 then O ++ [(x, N)] else O) (S.take j)) := group_merge hij2 hjl hM.out.1 hM.out.2.1 hR.out.1 hR.out.2
            have HMl : Hid (∀ c ∈ (if N ≠ 0 then O ++ [(x, N)] else O), ∀ d ∈ S.drop j, c.1 < d.1) := group_less hij2 hjl hM.out.2.1 hR.out.1 HCut.out
            generalize S[j].1 = z at *
            clear hxe
            have hGd := hK.out.g.drew
            have hgs : w3.heap.size ≤ wr.heap.size := hK.out.g.size
            have hO2 : O.length ≤ 2097152 := by omega
            by_cases hN0 : N = 0
            · subst hN0
              rw [if_neg (by decide)] at HMn HMl
              go_wp2_with fail
              go_region
              go_wp2_with fail
              exact ⟨⟨j, O, hjl, rfl, hGd, ⟨HMn.out, HMl.out, HCut.out⟩, by omega⟩, by simp [intOf]; omega⟩
            · have t1 : ((N : Int) != 0) = true := by rw [bne_iff_ne]; omega
              rw [if_pos hN0] at HMn HMl
              go_wp2_with fail
              go_region
              go_wp2_with (at_builtin; refine wpList_append_own _ rfl _ _ 23 rfl w3.heap.size 49 i0 (.agg #[.int .i64 0, .int .u64 0]) 2 16 Try.underlying23 hi hz0 hz1 hz2 rfl (by decide) _ _ _ rfl (hGd.own.alloc _) ⟨_, 0, none⟩ 1 1 [_, _] rfl rfl (cell_two_new _ _ _ _) (two_one x N) (by unfold maxLen; omega) (by omega) (by simp; omega) ?_; intro v5 w5 hown hgrow hnil; have hg' := hGd.push (x, N) _ hown hgrow; clear hown hgrow hnil)
              go_round
              case rel => exact ⟨j, O ++ [(x, N)], hjl, rfl, hg', ⟨HMn.out, HMl.out, HCut.out⟩, by rw [List.length_append, List.length_singleton]; omega⟩
              case measure => simp [intOf]; omega
        · obtain rfl : j = S.length := by omega
          have hjt' : ¬ (S.length : Int) < (S.length : Int) := by omega
          have HCut : Hid (Cut S S.length) := cut_next HS.out hlt hjl hM.out.2.2 hR.out.1 (fun h => absurd h (Nat.lt_irrefl _))
          have HMn : Hid (IsMerge (if N ≠ 0 then O ++ [(x, N)] else O) (S.take S.length)) := group_merge hlt hjl hM.out.1 hM.out.2.1 hR.out.1 hR.out.2
          have HMl : Hid (∀ c ∈ (if N ≠ 0 then O ++ [(x, N)] else O), ∀ d ∈ S.drop S.length, c.1 < d.1) := group_less hlt hjl hM.out.2.1 hR.out.1 HCut.out
          have hgs : w3.heap.size ≤ wr.heap.size := hK.out.g.size
          have hO2 : O.length ≤ 2097152 := by omega
          by_cases hN0 : N = 0
          · subst hN0
            rw [if_neg (by decide)] at HMn HMl
            go_wp2_with fail
            go_quiet (fail)
            have hGd := gc_drewN hK.out.g nq
            go_wp2_with fail
            exact ⟨⟨S.length, O, Nat.le_refl _, rfl, hGd, ⟨HMn.out, HMl.out, HCut.out⟩, by omega⟩, by simp [intOf]; omega⟩
          · have t1 : ((N : Int) != 0) = true := by rw [bne_iff_ne]; omega
            rw [if_pos hN0] at HMn HMl
            go_wp2_with fail
            go_quiet (fail)
            have hGd := gc_drewN hK.out.g nq
            go_wp2_with (at_builtin; refine wpList_append_own _ rfl _ _ 23 rfl w3.heap.size 49 i0 (.agg #[.int .i64 0, .int .u64 0]) 2 16 Try.underlying23 hi hz0 hz1 hz2 rfl (by decide) _ _ _ rfl (hGd.own.alloc _) ⟨_, 0, none⟩ 1 1 [_, _] rfl rfl (cell_two_new _ _ _ _) (two_one x N) (by unfold maxLen; omega) (by omega) (by simp; omega) ?_; intro v5 w5 hown hgrow hnil; have hg' := hGd.push (x, N) _ hown hgrow; clear hown hgrow hnil)
            go_round
            case rel => exact ⟨S.length, O ++ [(x, N)], Nat.le_refl _, rfl, hg', ⟨HMn.out, HMl.out, HCut.out⟩, by rw [List.length_append, List.length_singleton]; omega⟩
            case measure => simp [intOf]; omega
    · obtain rfl : i = S.length := by omega
      have hlt' : ¬ (S.length : Int) < (S.length : Int) := by omega
      have HMn : Hid (IsMerge O (A ++ C)) := by
        have := hM.out.1
        rw [List.take_length] at this
        exact this.perm HP.out
      go_wp2_with fail
      go_ret
      exact ⟨_, O, rfl, HMn.out, hG.out.rebase HB3.out⟩
end Go.Proofs.Ythhoklgfgandpaa
