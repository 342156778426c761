/- THE DOCUMENT's MACHINE: Fresh. Own work of the verifier. -/
import Derived.Test.YtaeapikhhbjlnaaGreatDoorZBH
import Derived.Deep.RegionHeld3
import Derived.Test.YtaeapikhhbjlnaaGreatDoorZBB
import Derived.Test.YtaeapikhhbjlnaaGreatDoorKG
namespace Go.Proofs.YtaeapikhhbjlnaaGreatDoor
open Go.RowKit

theorem infoIS : (Tryz.prog.info? 161).map (fun i => (i.zero, i.size, i.bytes)) = some (some (.slice none 0 0), 1, 24) := by kernel_rfl
/-- An instrument in memory. -/
def insA (kind : Int) (x0 x1 : Value) : Array Value := #[.int .i64 kind, .string ⟨#[]⟩, .string ⟨#[]⟩, .slice none 0 0, x0, x1, .int .i64 0, .int .u64 0, .slice none 0 0, .int .u64 0, .int .u64 0, .int .u64 0, .int .u64 0, .int .u64 0]
/-- What stands at the beginning of the loops. -/
structure FrB (c d r : Nat) (kind : Int) (w : World) : Prop where
  hc : w.heap[c]? = some (.cells (insA kind (.slice none 0 0) (.slice none 0 0)) 132 (0, 0))
  hd : w.cell? ⟨d, 0, none⟩ = some (.int .i64 kind)
  hr : w.heap[r]? = some (.cells (insA 0 (.slice none 0 0) (.slice none 0 0)) 132 (0, 0))
  dc : d < c
  rc : r < c
def OD (c n : Nat) (kind : Int) (X : List Int) (w : World) : Nat → World → Prop
  | 0, wr => wr = w
  | 1, wr => ∃ x0 G0, G0.length = n ∧ DI c 0 X w G0 x0 wr ∧ wr.heap[c]? = some (.cells (insA kind x0 (.slice none 0 0)) 132 (0, 0))
  | _, wr => ∃ x0 G0 x1 G1 w1, G0.length = n ∧ G1.length = n ∧ DI c 0 X w G0 x0 w1 ∧ DI c 1 X w1 G1 x1 wr ∧ wr.heap[c]? = some (.cells (insA kind x0 x1) 132 (0, 0))
/-- The block, with what one buffer holds. -/
def BD (c b : Nat) (_kind : Int) (w1 : World) (x : Value) (w : World) : Prop := ∃ A, w1.heap[c]? = some (.cells A 132 (0, 0)) ∧ w.heap[c]? = some (.cells (A.setIfInBounds (4 + b) x) 132 (0, 0))
theorem di_start {c d r n b : Nat} {kind : Int} {X : List Int} {w wr : World} (h : OD c n kind X w b wr) (hw : FrB c d r kind w) (hb : b < 2) : DI c b X wr [] (.slice none 0 0) wr ∧ BD c b kind wr (.slice none 0 0) wr := by
  have hl : c < w.heap.size := (Array.getElem?_eq_some_iff.1 hw.hc).1
  rcases (show b = 0 ∨ b = 1 by omega) with rfl | rfl
  · obtain rfl : wr = w := h
    refine ⟨⟨by simp [World.cell?, hw.hc, insA], World.ownsRow_nil _ _ _ _, (fun g hg => by cases hg), (fun g hg => by cases hg), List.nodup_nil, (fun k hk => by cases hk), Mid.refl _ _ _, fun _ _ => rfl, fun j => by simp [World.frozen?, hw.hc], hl⟩, _, hw.hc, ?_⟩
    rw [hw.hc]; rfl
  · obtain ⟨x0, G0, _, hI, hB⟩ := h
    refine ⟨⟨by simp [World.cell?, hB, insA], World.ownsRow_nil _ _ _ _, (fun g hg => by cases hg), (fun g hg => by cases hg), List.nodup_nil, (fun k hk => by cases hk), Mid.refl _ _ _, fun _ _ => rfl, hI.fr, Nat.lt_of_lt_of_le hl hI.mid.size⟩, _, hB, ?_⟩
    rw [hB]; rfl
theorem di_next {c d r n b : Nat} {kind : Int} {X : List Int} {w wr w' : World} {G : List Nat} {x : Value} (h : OD c n kind X w b wr) (hw : FrB c d r kind w) (hb : b < 2) (hI : DI c b X wr G x w') (hB : BD c b kind wr x w') (hG : G.length = n) : OD c n kind X w (b + 1) w' := by
  obtain ⟨A, a1, a2⟩ := hB
  rcases (show b = 0 ∨ b = 1 by omega) with rfl | rfl
  · obtain rfl : wr = w := h
    rw [hw.hc] at a1
    injection a1 with a1; injection a1 with a1
    subst a1
    exact ⟨x, G, hG, hI, a2⟩
  · obtain ⟨x0, G0, hG0, hI0, hB0⟩ := h
    rw [hB0] at a1
    injection a1 with a1; injection a1 with a1
    subst a1
    exact ⟨x0, G0, x, G, wr, hG0, hG, hI0, hI, a2⟩
theorem di_allocs {c b : Nat} {X : List Int} {W1 w : World} {G : List Nat} {x : Value} (h : Hid (DI c b X W1 G x w)) : (∀ o1, (w.alloc o1).cell? ⟨c, 4 + b, none⟩ = some x) ∧ (∀ o1 o2, ((w.alloc o1).alloc o2).cell? ⟨c, 4 + b, none⟩ = some x) := by
  have hl := lt_of_cell h.out.cell
  exact ⟨fun o1 => ((bel1 w o1).cell (p := ⟨c, 4 + b, none⟩) hl).trans h.out.cell, fun o1 o2 => ((bel2 w o1 o2).cell (p := ⟨c, 4 + b, none⟩) hl).trans h.out.cell⟩
theorem di_facts {c b : Nat} {X : List Int} {W1 w : World} {G : List Nat} {x : Value} (h : Hid (DI c b X W1 G x w)) : w.cell? ⟨c, 4 + b, none⟩ = some x ∧ w.frozen? ⟨c, 4 + b, none⟩ = false := ⟨h.out.cell, h.out.fr _⟩
theorem di_own {c b : Nat} {X : List Int} {W1 w : World} {G : List Nat} {x : Value} (h : DI c b X W1 G x w) (o1 o2 : Obj) : ((w.drew.alloc o1).alloc o2).ownsRow W1.heap.size 161 1 x G.length (G.map (slc X.length)) := ((World.ownsRow.drew h.own).alloc _).alloc _
theorem di_kept {c b : Nat} {X : List Int} {W1 w w' : World} {G : List Nat} {x : Value} {o1 o2 : Obj} (h : DI c b X W1 G x w) (hgr : ((w.drew.alloc o1).alloc o2).grownBy w' x.ownBlock) : w'.cell? ⟨c, 4 + b, none⟩ = some x ∧ w'.frozen? ⟨c, 4 + b, none⟩ = false ∧ ∀ k, k < W1.heap.size → w'.heap[k]? = w.heap[k]? := by
  have hs := h.mid.size
  have hcl := h.clt
  have hb : ∀ k, k < W1.heap.size → w'.heap[k]? = w.heap[k]? := fun k hk => by
    rw [hgr.block k (by simp; omega) (fun e => by have := h.own.lt k e.symm; omega)]
    exact (bel2 w.drew _ _).block k (by show k < w.heap.size; omega)
  exact ⟨(World.cell?_of_block (hb c hcl)).trans h.cell, (World.frozen?_of_block (hb c hcl)).trans (h.fr _), hb⟩
theorem bd_push {c b : Nat} {kind : Int} {w1 w w' : World} {x y : Value} (h : BD c b kind w1 x w) (hk : w'.heap[c]? = w.heap[c]?) : BD c b kind w1 y (w'.setCell ⟨c, 4 + b, none⟩ y) := by
  obtain ⟨A, a1, a2⟩ := h
  refine ⟨A, a1, ?_⟩
  rw [heap_setCell_same w' c (4 + b) _ _ _ (hk.trans a2)]
  simp
theorem di_d {c b d : Nat} {X : List Int} {W1 w : World} {G : List Nat} {x v : Value} (h : DI c b X W1 G x w) (hd : W1.cell? ⟨d, 0, none⟩ = some v) (hdc : d < c) : w.cell? ⟨d, 0, none⟩ = some v :=
  (World.cell?_of_block (h.mid.block d (lt_of_cell hd) (by omega))).trans hd
theorem od_d {c d r n b : Nat} {kind : Int} {X : List Int} {w wr : World} (h : OD c n kind X w b wr) (hw : FrB c d r kind w) (hb : b < 2) : wr.cell? ⟨d, 0, none⟩ = some (.int .i64 kind) := by
  rcases (show b = 0 ∨ b = 1 by omega) with rfl | rfl
  · obtain rfl : wr = w := h
    exact hw.hd
  · obtain ⟨x0, G0, _, hI, _⟩ := h
    exact di_d hI hw.hd hw.dc
end Go.Proofs.YtaeapikhhbjlnaaGreatDoor
/- THE DOCUMENT's MACHINE: Fresh, the walk. Own work of the verifier. -/
namespace Go.Proofs.YtaeapikhhbjlnaaGreatDoor
open Go.RowKit

/-- What Fresh answers. -/
def FrQ (n : Nat) (kind : Int) (X : List Int) (w : World) (v : Value) (w' : World) : Prop := ∃ c x0 G0 x1 G1 wa wb wc, v = .agg (insA kind x0 x1) ∧ G0.length = n ∧ G1.length = n ∧ Below w.heap.size w wa ∧ DI c 0 X wa G0 x0 wb ∧ DI c 1 X wb G1 x1 wc ∧ w.heap.size + 1 < c ∧ w' = wc.setRow (w.heap.size + 1) (insA kind x0 x1)
theorem od_end {c d r n : Nat} {kind : Int} {X : List Int} {w wr : World} (h : OD c n kind X w 2 wr) (hw : FrB c d r kind w) : ∃ x0 G0 x1 G1 w1, G0.length = n ∧ G1.length = n ∧ DI c 0 X w G0 x0 w1 ∧ DI c 1 X w1 G1 x1 wr ∧ wr.heap[c]? = some (.cells (insA kind x0 x1) 132 (0, 0)) ∧ wr.heap[r]? = some (.cells (insA 0 (.slice none 0 0) (.slice none 0 0)) 132 (0, 0)) := by
  obtain ⟨x0, G0, x1, G1, w1, h0, h1, h2, h3, h4⟩ := h
  have hrc := hw.rc
  have hr := (Array.getElem?_eq_some_iff.1 hw.hr).1
  exact ⟨x0, G0, x1, G1, w1, h0, h1, h2, h3, h4, (h3.mid.block r (Nat.lt_of_lt_of_le hr h2.mid.size) (by omega)).trans ((h2.mid.block r hr (by omega)).trans hw.hr)⟩
theorem di_one {c b : Nat} {X : List Int} {W1 w : World} {G : List Nat} {x : Value} (h : DI c b X W1 G x w) : x.oneCell' = true := by
  rcases h.own.2 with k | ⟨g, cap, cur, hv, _⟩
  · rw [k.1]; rfl
  · rw [hv]; rfl
theorem ins_one {kind : Int} {x y : Value} (hx : x.oneCell' = true) (hy : y.oneCell' = true) : (insA kind x y).all (·.oneCell') = true := by
  have : ∀ v ∈ [Value.int .i64 kind, .string ⟨#[]⟩, .string ⟨#[]⟩, .slice none 0 0, x, y, .int .i64 0, .int .u64 0, .slice none 0 0, .int .u64 0, .int .u64 0, .int .u64 0, .int .u64 0, .int .u64 0], v.oneCell' = true := by
    intro v hv
    simp only [List.mem_cons, List.not_mem_nil, or_false] at hv
    rcases hv with rfl | rfl | rfl | rfl | rfl | rfl | rfl | rfl | rfl | rfl | rfl | rfl | rfl | rfl <;> first | rfl | assumption
  rw [Array.all_eq_true_iff_forall_mem]
  intro v hv
  exact this v (by simpa [insA] using hv)
set_option maxRecDepth 10000 in
set_option maxHeartbeats 4000000 in
theorem fresh_any (n : Nat) (kind p : Int) (hn : n ≤ 16) (X : List Int) (hX : X = frst kind p) (w : World) :
    Calls Tryz.prog 37 #[dsc kind, .int .i64 (n : Int), .int .i64 p] w fun e w' => ∃ v, e = .returned v ∧ FrQ n kind X w v w' := by
  have HC : Hid (∀ W, _) := copied_any kind
  have HF : Hid (∀ W, _) := first_any kind p
  rw [← hX] at HF
  clear hX
  obtain ⟨i0, hi, hz0, hz1, hz2⟩ := info_parts infoIS
  go_enter Tryz.func37, Tryz.ntmps37
  go_wp2_with (go_at_call 81; with_reducible refine Calls.mono (HC.out _) ?_; rintro e w1 ⟨rfl, HB1⟩)
  have hsz : w.heap.size + 2 ≤ w1.heap.size := by have := HB1.out.size; simp at this; omega
  have HFr : Hid (FrB w1.heap.size w.heap.size (w.heap.size + 1) kind (w1.alloc (.cells (insA kind (.slice none 0 0) (.slice none 0 0)) 132))) := by
    refine ⟨new_1 w1 _, ?_, ?_, by omega, by omega⟩
    · refine (World.cell?_of_block ((bel1 w1 _).block w.heap.size (by omega))).trans ((World.cell?_of_block (HB1.out.block w.heap.size (by simp; omega))).trans ?_)
      simp [World.cell?, heap_alloc2_old]
    · refine ((bel1 w1 _).block (w.heap.size + 1) (by omega)).trans ((HB1.out.block (w.heap.size + 1) (by simp)).trans ?_)
      exact heap_alloc2_new w _ _
  have HBb : Hid (Below w.heap.size w (w1.alloc (.cells (insA kind (.slice none 0 0) (.slice none 0 0)) 132))) := ((bel2 w _ _).trans (HB1.out.mono (by simp; omega))).trans ((bel1 w1 _).mono (by omega))
  have hcc : w.heap.size + 1 < w1.heap.size := by omega
  unfold insA at HFr HBb
  generalize w1.alloc (Obj.cells #[Value.int IntKind.i64 kind, Value.string ⟨#[]⟩, Value.string ⟨#[]⟩, Value.slice none 0 0, Value.slice none 0 0, Value.slice none 0 0, Value.int IntKind.i64 0, Value.int IntKind.u64 0, Value.slice none 0 0, Value.int IntKind.u64 0, Value.int IntKind.u64 0, Value.int IntKind.u64 0, Value.int IntKind.u64 0, Value.int IntKind.u64 0] 132) = w2 at *
  clear HB1 hsz
  generalize w1.heap.size = c at *
  go_loopw [8] (fun a wr => ∃ b : Nat, b ≤ 2 ∧ a = .int .i64 (b : Int) ∧ Hid (OD c n kind X w2 b wr)) (fun a _ => 2 - (intOf a).toNat)
  case atStart => exact ⟨0, by omega, rfl, rfl⟩
  case round =>
    obtain ⟨b, hb2, rfl, HO⟩ := hrel
    by_cases hb : b < 2
    · have hb' : (b : Int) < 2 := by omega
      have HLI : Hid (DI c b X wr [] (.slice none 0 0) wr ∧ BD c b kind wr (.slice none 0 0) wr) := di_start HO.out HFr.out hb
      have hdk := od_d HO.out HFr.out hb
      have hdc := HFr.out.dc
      obtain ⟨w3, hw3⟩ : ∃ w3, w3 = wr := ⟨_, rfl⟩
      subst hw3
      go_wp2_with fail
      go_loopw [9] (fun a wi => ∃ i x G, i ≤ n ∧ a = .int .i64 (i : Int) ∧ G.length = i ∧ Hid (DI c b X w3 G x wi ∧ BD c b kind w3 x wi)) (fun a _ => n - (intOf a).toNat)
      case atStart => exact ⟨0, _, [], by omega, rfl, rfl, HLI.out⟩
      case round =>
        obtain ⟨i, x, G, hin, rfl, rfl, HI⟩ := hrel
        have HI1 : Hid (DI c b X w3 G x wr) := HI.out.1
        by_cases hlt : G.length < n
        · have hlt' : (G.length : Int) < (n : Int) := by omega
          obtain ⟨q0, f0⟩ := di_facts HI1
          obtain ⟨qa, qb⟩ := di_allocs HI1
          have hdw := di_d HI1.out hdk hdc
          have hS0 : wr.cell? ⟨w.heap.size, 0, none⟩ = some (.int .i64 kind) ∧ wr.cell? ⟨c, 4 + b, none⟩ = some x := ⟨hdw, q0⟩
          have hSa : ∀ o1, (wr.alloc o1).cell? ⟨w.heap.size, 0, none⟩ = some (.int .i64 kind) ∧ (wr.alloc o1).cell? ⟨c, 4 + b, none⟩ = some x := fun o1 => ⟨((bel1 wr o1).cell (p := ⟨w.heap.size, 0, none⟩) (lt_of_cell hdw)).trans hdw, qa o1⟩
          have hSb : ∀ o1 o2, ((wr.alloc o1).alloc o2).cell? ⟨w.heap.size, 0, none⟩ = some (.int .i64 kind) ∧ ((wr.alloc o1).alloc o2).cell? ⟨c, 4 + b, none⟩ = some x := fun o1 o2 => ⟨((bel2 wr o1 o2).cell (p := ⟨w.heap.size, 0, none⟩) (lt_of_cell hdw)).trans hdw, qb o1 o2⟩
          go_wp2_with fail
          go_region_law
            (first
              | (rw [if_pos (by simp [Region.wanted])]; go_simp; with_reducible refine Calls.mono (HF.out _) ?_; rintro e w5 ⟨rfl, rfl⟩; simp only [])
              | (refine step_append_lies _ (by rfl) _ _ 125 (by rfl) w3.heap.size 161 i0 (.slice none 0 0) 1 24 Tryz.underlying125 hi hz0 hz1 hz2 rfl (by decide) x G.length (G.map (slc X.length)) (by rfl) (di_own HI1.out _ _) ⟨wr.heap.size + 1, 0, none⟩ 1 1 [slc X.length wr.heap.size] (by rfl) rfl (World.news_of_block (cs := #[slc X.length wr.heap.size]) (Pr.new2 wr.drew _ _)) (by simp [Value.oneCell']) (by decide) (by unfold maxLen; omega) (by omega) (by have := HI1.out.mid.size; simp; omega) (wr.heap.size + 2) (by simp) ?_; intro g cap w' hown hgr hat hgl; obtain ⟨q1, f1, kb⟩ := di_kept HI1.out hgr; have hdv := (World.cell?_of_block (kb w.heap.size (lt_of_cell hdk))).trans hdw))
          all_goals
            go_wp2_with fail
            exact ⟨⟨G.length + 1, _, G ++ [wr.heap.size], by omega, by simp, by simp, HI1.out.push _ hown ⟨hgr.os, hgr.tape, hgr.output, hgr.size, hgr.block⟩ hat, bd_push HI.out.2 (kb c HI1.out.clt)⟩, by simp [intOf]; omega⟩
        · have hE : G.length = n := by omega
          have hlt' : ¬ (G.length : Int) < (n : Int) := by omega
          go_wp2_with fail
          exact ⟨⟨b + 1, by omega, by simp, di_next HO.out HFr.out hb HI.out.1 HI.out.2 hE⟩, by simp [intOf]; omega⟩
    · obtain rfl : b = 2 := by omega
      obtain ⟨x0, G0, x1, G1, wb, h0, h1, h2, h3, h4, h5⟩ := od_end HO.out HFr.out
      go_upto_region 9 with fail
      refine wp_region_list ?_
      refine wpList_load_row rfl _ _ rfl c rfl _ _ _ _ h4 Tryz.underlying132 rfl (by kernel_rfl) ?_
      refine wpList_store_row rfl _ _ _ rfl (w.heap.size + 1) (insA kind x0 x1) rfl rfl _ _ h5 (by kernel_rfl) rfl ?_ ?_
      · exact ins_one (di_one h2) (di_one h3)
      go_wp2_with fail
      refine bodyPost_ret (results_cell_row (P := Tryz.prog) rfl _ _ (w.heap.size + 1) 132 _ (0, 0) _ rfl (setRow_heap wr _ _ _ _ _ h5) Tryz.underlying132 rfl (by kernel_rfl)) rfl ?_
      exact ⟨_, rfl, c, x0, G0, x1, G1, w2, wb, wr, rfl, h0, h1, HBb.out, h2, h3, hcc, rfl⟩
end Go.Proofs.YtaeapikhhbjlnaaGreatDoor
/- THE DOCUMENT's MACHINE: Turn, Refused. Own work of the verifier. -/
namespace Go.Proofs.YtaeapikhhbjlnaaGreatDoor
open Go.RowKit

/-- The machine, behind the document's Shared. -/
structure Sdm (sb mb : Nat) (m : Mc) (w : World) : Prop where
  sh : w.cell? ⟨sb, 0, none⟩ = some (.pointer (some ⟨mb, 0, none⟩))
  mach : w.heap[mb]? = some (.cells m.arr 124 (0, 0))
theorem Sdm.mm {sb mb : Nat} {m : Mc} {w : World} (h : Sdm sb mb m w) (o : Nat) (v : Value) (e : m.arr[o]? = some v) : w.cell? ⟨mb, o, none⟩ = some v := by simp [World.cell?, h.mach, e]
theorem Sdm.mf {sb mb : Nat} {m : Mc} {w : World} (h : Sdm sb mb m w) (o : Nat) : w.frozen? ⟨mb, o, none⟩ = false := by simp [World.frozen?, h.mach]
theorem Sdm.put {sb mb : Nat} {m : Mc} {w : World} (h : Sdm sb mb m w) (hne : sb ≠ mb) (o : Nat) (v : Value) (m' : Mc) (e : m.arr.setIfInBounds o v = m'.arr) : Sdm sb mb m' (w.setCell ⟨mb, o, none⟩ v) := by
  refine ⟨?_, ?_⟩
  · rw [World.cell?_setCell_other w ⟨mb, o, none⟩ ⟨sb, 0, none⟩ v (fun e => hne (by injection e with e; exact e.symm))]; exact h.sh
  · rw [heap_setCell_same w mb o _ _ _ h.mach, ← e]
theorem turn14_any (sb mb a : Nat) (m : Mc) (w : World) (H : Sdm sb mb m w) (hne : sb ≠ mb) (hma : m.a = (a : Int)) (ha : a < 2) :
    Calls Tryz.prog 43 #[.pointer (some ⟨sb, 0, none⟩)] w fun e w' => e = .returned (.int .i64 (a : Int)) ∧ Hid (Sdm sb mb { m with a := ((1 - a : Nat) : Int) } w') ∧ Hid (Chg (fun x => x = mb) w w') := by
  have s0 := H.sh
  have m8 : w.cell? ⟨mb, 8, none⟩ = some (.int .i64 (a : Int)) := H.mm 8 _ (by rw [← hma]; rfl)
  have g8 := H.mf 8
  have HQ : Hid (Sdm sb mb { m with a := ((1 - a : Nat) : Int) } (w.setCell ⟨mb, 8, none⟩ (.int .i64 ((1 - a : Nat) : Int)))) := H.put hne 8 _ _ rfl
  have HC : Hid (Chg (fun x => x = mb) w (w.setCell ⟨mb, 8, none⟩ (.int .i64 ((1 - a : Nat) : Int)))) := Chg.set w ⟨mb, 8, none⟩ _
  clear H hma
  rcases (show a = 0 ∨ a = 1 by omega) with rfl | rfl
  all_goals
    go_enter Tryz.func43, Tryz.ntmps43
    go_wp2
    go_ret
    exact ⟨rfl, HQ, HC⟩
theorem refd14_no (sb : Nat) (b : Int) (hb : ¬ b = 0) (hb1 : ¬ b = 1) (w : World) :
    Calls Tryz.prog 14 #[.pointer (some ⟨sb, 0, none⟩), .int .i64 b] w fun e w' => e = .returned (.int .u64 0) ∧ w' = w := by
  have e0 : (b != 0) = true := by simpa using hb
  have e1 : (b != 1) = true := by simpa using hb1
  go_enter Tryz.func14, Tryz.ntmps14
  go_wp2
  go_ret
  exact ⟨rfl, rfl⟩
theorem refd14_0 (sb mb : Nat) (m : Mc) (w : World) (H : Sdm sb mb m w) (hne : sb ≠ mb) :
    Calls Tryz.prog 14 #[.pointer (some ⟨sb, 0, none⟩), .int .i64 0] w fun e w' => e = .returned (.int .u64 (uw m.r0)) ∧ Hid (Sdm sb mb { m with r0 := 0 } w') ∧ Hid (Chg (fun x => x = mb) w w') := by
  have s0 := H.sh
  have m8 : w.cell? ⟨mb, 9, none⟩ = some (.int .i64 m.r0) := H.mm 9 _ rfl
  have g8 := H.mf 9
  have HQ : Hid (Sdm sb mb { m with r0 := 0 } (w.setCell ⟨mb, 9, none⟩ (.int .i64 0))) := H.put hne 9 _ _ rfl
  have HC : Hid (Chg (fun x => x = mb) w (w.setCell ⟨mb, 9, none⟩ (.int .i64 0))) := Chg.set w ⟨mb, 9, none⟩ _
  clear H
  generalize m.r0 = r at *
  go_enter Tryz.func14, Tryz.ntmps14
  go_wp2
  go_ret
  exact ⟨rfl, HQ, HC⟩
theorem refd14_1 (sb mb : Nat) (m : Mc) (w : World) (H : Sdm sb mb m w) (hne : sb ≠ mb) :
    Calls Tryz.prog 14 #[.pointer (some ⟨sb, 0, none⟩), .int .i64 1] w fun e w' => e = .returned (.int .u64 (uw m.r1)) ∧ Hid (Sdm sb mb { m with r1 := 0 } w') ∧ Hid (Chg (fun x => x = mb) w w') := by
  have s0 := H.sh
  have m8 : w.cell? ⟨mb, 10, none⟩ = some (.int .i64 m.r1) := H.mm 10 _ rfl
  have g8 := H.mf 10
  have HQ : Hid (Sdm sb mb { m with r1 := 0 } (w.setCell ⟨mb, 10, none⟩ (.int .i64 0))) := H.put hne 10 _ _ rfl
  have HC : Hid (Chg (fun x => x = mb) w (w.setCell ⟨mb, 10, none⟩ (.int .i64 0))) := Chg.set w ⟨mb, 10, none⟩ _
  clear H
  generalize m.r1 = r at *
  go_enter Tryz.func14, Tryz.ntmps14
  go_wp2
  go_ret
  exact ⟨rfl, HQ, HC⟩
end Go.Proofs.YtaeapikhhbjlnaaGreatDoor
/- THE DOCUMENT's INSTRUMENTS in memory. Own work of the verifier. -/
namespace Go.Proofs.YtaeapikhhbjlnaaGreatDoor
open Go.RowKit

/-- An instrument: its kind; its headers, their room, its rows, by buffers. -/
structure Ins where
  kd : Int
  h : Nat → Nat
  cap : Nat → Nat
  g : Nat → List Nat
def Ins.hdr (I : Ins) (n b : Nat) : Value := .slice (some ⟨I.h b, 0, none⟩) n (I.cap b)
def Ins.arr (I : Ins) (n : Nat) : Array Value := insA I.kd (I.hdr n 0) (I.hdr n 1)
/-- A block of an instrument. -/
def Ins.Blk (I : Ins) (x : Nat) : Prop := x = I.h 0 ∨ x = I.h 1 ∨ x ∈ I.g 0 ++ I.g 1
theorem Ins.blk_h (I : Ins) {b : Nat} (hb : b < 2) : I.Blk (I.h b) := by
  rcases (show b = 0 ∨ b = 1 by omega) with rfl | rfl
  · exact Or.inl rfl
  · exact Or.inr (Or.inl rfl)
theorem Ins.blk_g (I : Ins) {b x : Nat} (hb : b < 2) (hx : x ∈ I.g b) : I.Blk x := Or.inr (Or.inr (mem_of hb hx))
structure InsW (I : Ins) (n wd : Nat) (C : Nat → Nat → List Int) (w : World) : Prop where
  hb : ∀ b, b < 2 → HdD w (I.h b) wd (I.g b)
  len : ∀ b, b < 2 → (I.g b).length = n
  row : ∀ b, b < 2 → ∀ i (hi : i < (I.g b).length), RowD w (I.g b)[i] (C b i)
  nd : (I.g 0 ++ I.g 1).Nodup
  hne : I.h 0 ≠ I.h 1
theorem InsW.lt {I : Ins} {n wd : Nat} {C : Nat → Nat → List Int} {w : World} (H : InsW I n wd C w) {x : Nat} (hx : I.Blk x) : x < w.heap.size := by
  rcases hx with rfl | rfl | h
  · exact (H.hb 0 (by decide)).lt
  · exact (H.hb 1 (by decide)).lt
  · rcases List.mem_append.1 h with q | q
    · obtain ⟨i, hi, rfl⟩ := List.getElem_of_mem q
      exact (H.row 0 (by decide) i hi).lt
    · obtain ⟨i, hi, rfl⟩ := List.getElem_of_mem q
      exact (H.row 1 (by decide) i hi).lt
theorem InsW.chg {I : Ins} {n wd : Nat} {C : Nat → Nat → List Int} {w w' : World} {S : Nat → Prop} (H : InsW I n wd C w) (hc : Chg S w w') (hS : ∀ x, I.Blk x → ¬ S x) : InsW I n wd C w' :=
  ⟨fun b hb => (H.hb b hb).heap (hc.block _ (H.hb b hb).lt (hS _ (I.blk_h hb))), H.len, fun b hb i hi => (H.row b hb i hi).heap (hc.block _ (H.row b hb i hi).lt (hS _ (I.blk_g hb (List.getElem_mem hi)))), H.nd, H.hne⟩
/-- The type of a block of an instrument. -/
theorem InsW.ty {I : Ins} {n wd : Nat} {C : Nat → Nat → List Int} {w : World} (H : InsW I n wd C w) {x : Nat} (hx : I.Blk x) {cs : Array Value} {t : TypeId} {z : Nat × Nat} (hk : w.heap[x]? = some (.cells cs t z)) : t = 2 ∨ t = 161 := by
  have h1 : ∀ b, b < 2 → x = I.h b → t = 161 := fun b hb e => by
    obtain ⟨rest, h⟩ := H.hb b hb
    rw [← e, hk] at h
    injection h with h
    injection h with _ h
  have h2 : ∀ b, b < 2 → x ∈ I.g b → t = 2 := fun b hb e => by
    obtain ⟨i, hi, e2⟩ := List.getElem_of_mem e
    have h := H.row b hb i hi
    unfold RowD at h
    rw [e2, hk] at h
    injection h with h
    injection h with _ h
  rcases hx with e | e | e
  · exact Or.inr (h1 0 (by decide) e)
  · exact Or.inr (h1 1 (by decide) e)
  · rcases List.mem_append.1 e with q | q
    · exact Or.inl (h2 0 (by decide) q)
    · exact Or.inl (h2 1 (by decide) q)
theorem own_hd {w : World} {B n wd : Nat} {x : Value} {G : List Nat} (h : w.ownsRow B 161 1 x n (G.map (slc wd))) (hn : 0 < n) : ∃ hb cap, x = .slice (some ⟨hb, 0, none⟩) n cap ∧ B ≤ hb ∧ HdD w hb wd G := by
  rcases h.2 with ⟨_, k⟩ | ⟨g, cap, cur, rfl, hb, hg, hroom, _, hcs, htk⟩
  · omega
  · refine ⟨g, cap, rfl, hb, cur.toList.drop (n * 1), ?_⟩
    rw [hg, ← htk, List.take_append_drop]
/-- What Fresh makes. -/
theorem fresh_ins {n : Nat} {kind : Int} {X : List Int} {w w' : World} {v : Value} (hn : 0 < n) (h : FrQ n kind X w v w') : ∃ I : Ins, I.kd = kind ∧ v = .agg (I.arr n) ∧ InsW I n X.length (fun _ _ => X) w' ∧ Below w.heap.size w w' ∧ ∀ x, I.Blk x → w.heap.size ≤ x := by
  obtain ⟨c, x0, G0, x1, G1, wa, wb, wc, rfl, l0, l1, hB, hD0, hD1, hc, rfl⟩ := h
  obtain ⟨h0, cap0, rfl, a0, d0⟩ := own_hd (n := n) (by have := hD0.own; rw [l0] at this; exact this) hn
  obtain ⟨h1, cap1, rfl, a1, d1⟩ := own_hd (n := n) (by have := hD1.own; rw [l1] at this; exact this) hn
  have sa := hB.size
  have sb := hD0.mid.size
  have ca := hD0.clt
  have keep1 : ∀ x, wa.heap.size ≤ x → x < wb.heap.size → wc.heap[x]? = wb.heap[x]? := fun x hx hl => hD1.mid.block x hl (by omega)
  have keep2 : ∀ x, wa.heap.size ≤ x → (wc.setRow (w.heap.size + 1) (insA kind (.slice (some ⟨h0, 0, none⟩) n cap0) (.slice (some ⟨h1, 0, none⟩) n cap1))).heap[x]? = wc.heap[x]? := fun x hx => setRow_other wc _ x _ (by omega)
  have h01 : h0 < wb.heap.size := d0.lt
  refine ⟨⟨kind, fun b => if b = 0 then h0 else h1, fun b => if b = 0 then cap0 else cap1, fun b => if b = 0 then G0 else G1⟩, rfl, rfl, ⟨?_, ?_, ?_, ?_, ?_⟩, ?_, ?_⟩
  · intro b hb
    rcases (show b = 0 ∨ b = 1 by omega) with rfl | rfl
    · exact d0.heap ((keep2 h0 a0).trans (keep1 h0 a0 d0.lt))
    · exact d1.heap (keep2 h1 (by omega))
  · intro b hb
    rcases (show b = 0 ∨ b = 1 by omega) with rfl | rfl
    · exact l0
    · exact l1
  · intro b hb i hi
    rcases (show b = 0 ∨ b = 1 by omega) with rfl | rfl
    · have hr := hD0.rows _ (List.getElem_mem hi)
      exact hr.heap ((keep2 _ (hD0.ge _ (List.getElem_mem hi))).trans (keep1 _ (hD0.ge _ (List.getElem_mem hi)) hr.lt))
    · have hg := hD1.ge _ (List.getElem_mem hi)
      exact (hD1.rows _ (List.getElem_mem hi)).heap (keep2 _ (by omega))
  · show (G0 ++ G1).Nodup
    rw [List.nodup_append]
    refine ⟨hD0.nd, hD1.nd, fun a ha b hb e => ?_⟩
    have q1 := (hD0.rows a ha).lt
    have q2 := hD1.ge b hb
    omega
  · show h0 ≠ h1
    omega
  · have hm := hD0.mid.trans hD1.mid
    refine ⟨hm.os.trans hB.os, hm.tape.trans hB.tape, hm.output.trans hB.output, ?_, fun k hk => ?_⟩
    · have := hm.size
      have hz : (wc.setRow (w.heap.size + 1) (insA kind (.slice (some ⟨h0, 0, none⟩) n cap0) (.slice (some ⟨h1, 0, none⟩) n cap1))).heap.size = wc.heap.size := by simp [World.setRow]
      omega
    · rw [setRow_other wc _ k _ (by omega), hm.block k (by omega) (by omega)]
      exact hB.block k hk
  · intro x hx
    rcases hx with e | e | e
    · have e' : x = h0 := e
      omega
    · have e' : x = h1 := e
      omega
    · rcases List.mem_append.1 e with q | q
      · have := hD0.ge x q
        omega
      · have := hD1.ge x q
        omega
/-- The document's machine and its instruments. -/
structure DocW (sb mb ib capI : Nat) (m : Mc) (Is : List Ins) (n p : Nat) (C : Nat → Nat → Nat → List Int) (w : World) : Prop where
  sh : w.heap[sb]? = some (.cells #[.pointer (some ⟨mb, 0, none⟩)] 135 (0, 0))
  mach : w.heap[mb]? = some (.cells m.arr 124 (0, 0))
  l : 0 < Is.length → m.l = .slice (some ⟨ib, 0, none⟩) Is.length capI
  arr : 0 < Is.length → ∃ cur : Array Value, w.heap[ib]? = some (.cells cur 132 (0, 0)) ∧ ∀ j (hj : j < Is.length), ∀ o, o < 14 → cur[j * 14 + o]? = (Is[j].arr n)[o]?
  ins : ∀ j (hj : j < Is.length), InsW Is[j] n (wdF Is[j].kd p) (C j) w
  dj : ∀ i j (hi : i < Is.length) (hj : j < Is.length), i ≠ j → ∀ x, Is[i].Blk x → ¬ Is[j].Blk x
section
variable {sb mb ib capI n p : Nat} {m : Mc} {Is : List Ins} {C : Nat → Nat → Nat → List Int} {w w' : World}
/-- A block of the document's. -/
def DBlk (sb mb ib : Nat) (Is : List Ins) (x : Nat) : Prop := x = sb ∨ x = mb ∨ (0 < Is.length ∧ x = ib) ∨ ∃ j, ∃ hj : j < Is.length, Is[j].Blk x
theorem DocW.chg {S : Nat → Prop} (H : DocW sb mb ib capI m Is n p C w) (hc : Chg S w w') (hS : ∀ x, DBlk sb mb ib Is x → ¬ S x) : DocW sb mb ib capI m Is n p C w' :=
  ⟨hc.at_ H.sh (hS _ (Or.inl rfl)), hc.at_ H.mach (hS _ (Or.inr (Or.inl rfl))), H.l, fun h => by
    obtain ⟨cur, h1, h2⟩ := H.arr h
    exact ⟨cur, hc.at_ h1 (hS _ (Or.inr (Or.inr (Or.inl ⟨h, rfl⟩)))), h2⟩, fun j hj => (H.ins j hj).chg hc (fun x hx => hS x (Or.inr (Or.inr (Or.inr ⟨j, hj, hx⟩)))), H.dj⟩
theorem DocW.below (H : DocW sb mb ib capI m Is n p C w) (hb : Below w.heap.size w w') : DocW sb mb ib capI m Is n p C w' := H.chg (S := fun _ => False) (Chg.of_below hb) (fun _ _ k => k)
theorem DocW.sdm (H : DocW sb mb ib capI m Is n p C w) : Sdm sb mb m w := ⟨by simp [World.cell?, H.sh], H.mach⟩
/-- Types of the document's blocks. -/
theorem DocW.ty (H : DocW sb mb ib capI m Is n p C w) {x : Nat} (hx : DBlk sb mb ib Is x) {cs : Array Value} {t : TypeId} {z : Nat × Nat} (hk : w.heap[x]? = some (.cells cs t z)) : t = 135 ∨ t = 124 ∨ t = 132 ∨ t = 2 ∨ t = 161 := by
  have aux : ∀ {o : Array Value} {t' : TypeId} {z' : Nat × Nat}, w.heap[x]? = some (.cells o t' z') → t = t' := fun h => by
    rw [hk] at h
    injection h with h
    injection h with _ h
  rcases hx with rfl | rfl | ⟨h, rfl⟩ | ⟨j, hj, h⟩
  · exact Or.inl (aux H.sh)
  · exact Or.inr (Or.inl (aux H.mach))
  · obtain ⟨cur, h1, _⟩ := H.arr h
    exact Or.inr (Or.inr (Or.inl (aux h1)))
  · exact Or.inr (Or.inr (Or.inr ((H.ins j hj).ty h hk)))
theorem DocW.ne (H : DocW sb mb ib capI m Is n p C w) : sb ≠ mb := fun e => by
  have h := H.sh
  rw [e, H.mach] at h
  injection h with h
  injection h with _ h
  exact absurd h (by decide)
/-- The machine has changed. -/
theorem DocW.machine {m' : Mc} (H : DocW sb mb ib capI m Is n p C w) (hc : Chg (fun x => x = mb) w w') (hm : w'.heap[mb]? = some (.cells m'.arr 124 (0, 0))) (hl : m'.l = m.l) : DocW sb mb ib capI m' Is n p C w' := by
  have hn : ∀ x cs t z, w.heap[x]? = some (.cells cs t z) → t ≠ 124 → x ≠ mb := fun x cs t z h1 h2 e => by
    rw [e, H.mach] at h1
    injection h1 with h1
    injection h1 with _ h1
    exact h2 h1.symm
  refine ⟨hc.at_ H.sh H.ne, hm, fun h => by rw [hl]; exact H.l h, fun h => ?_, fun j hj => (H.ins j hj).chg hc (fun x hx e => ?_), H.dj⟩
  · obtain ⟨cur, h1, h2⟩ := H.arr h
    exact ⟨cur, hc.at_ h1 (hn _ _ _ _ h1 (by decide)), h2⟩
  · have e' : x = mb := e
    have := (H.ins j hj).ty hx (by rw [e']; exact H.mach)
    rcases this with q | q <;> exact absurd q (by decide)
/-- What lies in the list of instruments. -/
theorem DocW.cell (H : DocW sb mb ib capI m Is n p C w) {j : Nat} (hj : j < Is.length) {o : Nat} (ho : o < 14) {v : Value} (e : (Is[j].arr n)[o]? = some v) : w.cell? ⟨ib, j * 14 + o, none⟩ = some v := by
  obtain ⟨cur, h1, h2⟩ := H.arr (by omega)
  have := h2 j hj o ho
  rw [e] at this
  simp [World.cell?, h1, this]
end
end Go.Proofs.YtaeapikhhbjlnaaGreatDoor
/- THE DOCUMENT's NEW (of layer 14). Own work of the verifier. -/
namespace Go.Proofs.YtaeapikhhbjlnaaGreatDoor
open Go.RowKit

theorem infoIns : (Tryz.prog.info? 132).map (fun i => (i.zero, i.size, i.bytes)) = some (some (.agg (insA 0 (.slice none 0 0) (.slice none 0 0))), 14, 192) := by kernel_rfl
/-- The instruments' cells, one behind the other. -/
def flI (n : Nat) (Is : List Ins) : List Value := Is.flatMap fun I => (I.arr n).toList
theorem arr_size (I : Ins) (n : Nat) : (I.arr n).size = 14 := rfl
theorem flI_get (n : Nat) (Is : List Ins) : ∀ (j : Nat) (hj : j < Is.length) (o : Nat), o < 14 → (flI n Is)[j * 14 + o]? = (Is[j].arr n)[o]? := by
  induction Is with
  | nil => intro j hj; simp at hj
  | cons I l ih =>
    intro j hj o ho
    have e : flI n (I :: l) = (I.arr n).toList ++ flI n l := rfl
    rw [e]
    cases j with
    | zero =>
      rw [List.getElem?_append_left (by rw [Array.length_toList, arr_size]; omega)]
      simp
    | succ j =>
      rw [List.getElem?_append_right (by rw [Array.length_toList, arr_size]; omega), Array.length_toList, arr_size, show (j + 1) * 14 + o - 14 = j * 14 + o by omega]
      simp only [List.getElem_cons_succ]
      exact ih j (by simpa using hj) o ho
/-- The machine at first. -/
def mc0 (st pr : Int) (l : Value) : Mc := ⟨st, pr, 0, 0, -9223372036854775808, 0, 0, 0, l⟩
/-- Where New stands: the instruments of the first kinds are there. -/
structure NwI (mb : Nat) (n p : Nat) (ks : List Int) (w : World) (i : Nat) (wr : World) : Prop where
  bel : Below w.heap.size w wr
  ge : w.heap.size ≤ mb
  ex : ∃ (lv : Value) (Is : List Ins), Is.length = i ∧ wr.heap[mb]? = some (.cells (mc0 (n : Int) (p : Int) lv).arr 124 (0, 0)) ∧ wr.ownsRow w.heap.size 132 14 lv i (flI n Is) ∧ (∀ j (hj : j < Is.length), ks[j]? = some Is[j].kd ∧ InsW Is[j] n (wdF Is[j].kd p) (fun _ _ => frst Is[j].kd (p : Int)) wr ∧ ∀ x, Is[j].Blk x → w.heap.size ≤ x) ∧ (∀ a b (ha : a < Is.length) (hb : b < Is.length), a ≠ b → ∀ x, Is[a].Blk x → ¬ Is[b].Blk x)
theorem nwi_ex {mb n p : Nat} {ks : List Int} {w wr : World} {i : Nat} (h : Hid (NwI mb n p ks w i wr)) : ∃ (lv : Value) (Is : List Ins), Hid (Is.length = i) ∧ Hid (wr.heap[mb]? = some (.cells (mc0 (n : Int) (p : Int) lv).arr 124 (0, 0))) ∧ Hid (wr.ownsRow w.heap.size 132 14 lv i (flI n Is)) ∧ Hid ((∀ j (hj : j < Is.length), ks[j]? = some Is[j].kd ∧ InsW Is[j] n (wdF Is[j].kd p) (fun _ _ => frst Is[j].kd (p : Int)) wr ∧ ∀ x, Is[j].Blk x → w.heap.size ≤ x) ∧ (∀ a b (ha : a < Is.length) (hb : b < Is.length), a ≠ b → ∀ x, Is[a].Blk x → ¬ Is[b].Blk x)) := by
  obtain ⟨lv, Is, a, b, c, d, e⟩ := h.out.ex
  exact ⟨lv, Is, a, b, c, d, e⟩
/-- One instrument more. -/
theorem NwI.next {mb n p : Nat} {ks : List Int} {w wr w1 w2 : World} {i : Nat} {lv : Value} {Is : List Ins} {I : Ins} {g cap : Nat} (hwr : NwI mb n p ks w i wr) (hl : Is.length = i) (hm : wr.heap[mb]? = some (.cells (mc0 (n : Int) (p : Int) lv).arr 124 (0, 0))) (ho : wr.ownsRow w.heap.size 132 14 lv i (flI n Is)) (hI : (∀ j (hj : j < Is.length), ks[j]? = some Is[j].kd ∧ InsW Is[j] n (wdF Is[j].kd p) (fun _ _ => frst Is[j].kd (p : Int)) wr ∧ ∀ x, Is[j].Blk x → w.heap.size ≤ x) ∧ (∀ a b (ha : a < Is.length) (hb : b < Is.length), a ≠ b → ∀ x, Is[a].Blk x → ¬ Is[b].Blk x)) (hk : ks[i]? = some I.kd)
    (hb1 : Below wr.heap.size wr w1) (hi1 : InsW I n (wdF I.kd p) (fun _ _ => frst I.kd (p : Int)) w1) (hge : ∀ x, I.Blk x → wr.heap.size ≤ x) (o : Obj)
    (hown : w2.ownsRow w.heap.size 132 14 (.slice (some ⟨g, 0, none⟩) (i + 1) cap) (i + 1) (flI n Is ++ (I.arr n).toList)) (hgr : (w1.alloc o).grownBy w2 lv.ownBlock) :
    w2.heap[mb]? = some (.cells (mc0 (n : Int) (p : Int) lv).arr 124 (0, 0)) ∧ NwI mb n p ks w (i + 1) (w2.setCell ⟨mb, 11, none⟩ (.slice (some ⟨g, 0, none⟩) (i + 1) cap)) := by
  have hs := hwr.bel.size
  have hml := (Array.getElem?_eq_some_iff.1 hm).1
  have tyl : ∀ x, lv.ownBlock = some x → ∃ cs, wr.heap[x]? = some (.cells cs 132 (0, 0)) := fun x e => by
    rcases ho.2 with ⟨k, _⟩ | ⟨g, cap, cur, k, _, hg, _⟩
    · rw [k] at e; cases e
    · rw [k] at e
      have : g = x := by simpa [Value.ownBlock] using e
      exact ⟨cur, by rw [← this]; exact hg⟩
  have b2 : Below wr.heap.size wr (w1.alloc o) := hb1.trans ((bel1 w1 o).mono hb1.size)
  have keep : ∀ x, x < wr.heap.size → (∀ cs, wr.heap[x]? ≠ some (.cells cs 132 (0, 0))) → w2.heap[x]? = wr.heap[x]? := fun x hx hn => by
    rw [hgr.block x (by have := b2.size; omega) (fun e => by obtain ⟨cs, h⟩ := tyl x e.symm; exact hn cs h)]
    exact b2.block x hx
  have hm2 : w2.heap[mb]? = _ := (keep mb hml (fun cs h => by rw [hm] at h; injection h with h; injection h with _ h; exact absurd h (by decide))).trans hm
  have low : ∀ x, x < w.heap.size → w2.heap[x]? = w.heap[x]? := fun x hx => by
    rw [hgr.block x (by have := b2.size; omega) (fun e => by have := ho.lt x e.symm; omega), b2.block x (by omega)]
    exact hwr.bel.block x hx
  have hsz : wr.heap.size ≤ w2.heap.size := by have := hgr.size; have := b2.size; omega
  have hc : Chg (fun x => (∃ cs, wr.heap[x]? = some (.cells cs 132 (0, 0))) ∨ x = mb) wr (w2.setCell ⟨mb, 11, none⟩ (.slice (some ⟨g, 0, none⟩) (i + 1) cap)) := by
    refine ⟨hgr.os.trans b2.os, hgr.tape.trans b2.tape, hgr.output.trans b2.output, by rw [World.size_setCell]; exact hsz, fun x hx hn => ?_⟩
    rw [heap_setCell_other _ _ _ _ (by show x ≠ mb; exact fun e => hn (Or.inr e))]
    exact keep x hx (fun cs h => hn (Or.inl ⟨cs, h⟩))
  have hin : ∀ (J : Ins) (W : World) (C : Nat → Nat → List Int) (wd : Nat), InsW J n wd C W → ∀ x, J.Blk x → ¬ (∃ cs, W.heap[x]? = some (.cells cs 132 (0, 0))) := fun J W C wd hJ x hx ⟨cs, h⟩ => by
    rcases hJ.ty hx h with q | q <;> exact absurd q (by decide)
  have hmt : ∀ (J : Ins) (W : World) (C : Nat → Nat → List Int) (wd : Nat) (A : Array Value), InsW J n wd C W → W.heap[mb]? = some (.cells A 124 (0, 0)) → ∀ x, J.Blk x → ¬ x = mb := fun J W C wd A hJ hA x hx e => by
    rcases hJ.ty hx (by rw [e]; exact hA) with q | q <;> exact absurd q (by decide)
  have hI2 : InsW I n (wdF I.kd p) (fun _ _ => frst I.kd (p : Int)) (w2.setCell ⟨mb, 11, none⟩ (.slice (some ⟨g, 0, none⟩) (i + 1) cap)) := by
    refine hi1.chg (S := fun x => (some x = lv.ownBlock) ∨ x = mb) ⟨hgr.os, hgr.tape, hgr.output, by rw [World.size_setCell]; have := hgr.size; simp at this; omega, fun x hx hn => ?_⟩ (fun x hx q => ?_)
    · rw [heap_setCell_other _ _ _ _ (by show x ≠ mb; exact fun e => hn (Or.inr e)), hgr.block x (by simp; omega) (fun e => hn (Or.inl e))]
      exact (bel1 w1 o).block x hx
    · have h1 := hge x hx
      rcases q with q | q
      · have := ho.lt x q.symm
        omega
      · omega
  refine ⟨hm2, ⟨?_, hwr.ge, .slice (some ⟨g, 0, none⟩) (i + 1) cap, Is ++ [I], by simp [hl], ?_, ?_, ?_, ?_⟩⟩
  · refine ⟨hc.os.trans hwr.bel.os, hc.tape.trans hwr.bel.tape, hc.output.trans hwr.bel.output, by have := hc.size; omega, fun x hx => ?_⟩
    have := hwr.ge
    rw [heap_setCell_other _ _ _ _ (by show x ≠ mb; omega)]
    exact low x hx
  · rw [heap_setCell_same _ mb 11 _ _ _ hm2]
    rfl
  · have e : flI n (Is ++ [I]) = flI n Is ++ (I.arr n).toList := by unfold flI; rw [List.flatMap_append]; simp
    rw [e]
    refine own_mid_ne hown (mid_set mb 11 _) (own_nty hown hm2 (by decide))
  · intro j hj
    by_cases h : j < Is.length
    · rw [List.getElem_append_left h]
      obtain ⟨q1, q2, q3⟩ := hI.1 j h
      exact ⟨q1, q2.chg hc (fun x hx q => by
        rcases q with q | q
        · exact hin _ _ _ _ q2 x hx q
        · exact hmt _ _ _ _ _ q2 hm x hx q), q3⟩
    · have e : j = Is.length := by simp at hj; omega
      subst e
      rw [List.getElem_append_right (Nat.le_refl _)]
      simp only [Nat.sub_self, List.getElem_cons_zero]
      exact ⟨by rw [hl]; exact hk, hI2, fun x hx => by have := hge x hx; omega⟩
  · intro a b ha hb hab x hx hx2
    simp at ha hb
    by_cases h1 : a < Is.length
    · rw [List.getElem_append_left h1] at hx
      by_cases h2 : b < Is.length
      · rw [List.getElem_append_left h2] at hx2
        exact hI.2 a b h1 h2 hab x hx hx2
      · rw [List.getElem_append_right (by omega)] at hx2
        simp only [show b - Is.length = 0 by omega, List.getElem_cons_zero] at hx2
        have := hge x hx2
        have := (hI.1 a h1).2.1.lt hx
        omega
    · rw [List.getElem_append_right (by omega)] at hx
      simp only [show a - Is.length = 0 by omega, List.getElem_cons_zero] at hx
      by_cases h2 : b < Is.length
      · rw [List.getElem_append_left h2] at hx2
        have := hge x hx
        have := (hI.1 b h2).2.1.lt hx2
        omega
      · omega
end Go.Proofs.YtaeapikhhbjlnaaGreatDoor
