/- THE DOCUMENT'S Parse: the walk. Own work of the verifier. -/
import Derived.Test.YtmphajfhilpgeabDA1
namespace Go.Proofs.Ytmphajfhilpgeab
open Go.RowKit

theorem one_ne {l : List UInt8} {p : Nat} {L : List Lb} {z : Int} {k : Nat} (_hp : p ≤ l.length) (h : oneR l p L = .error (z, k)) : z ≠ 0 := by
  unfold oneR at h
  split at h
  · cases h; decide
  split at h
  · cases h; decide
  split at h
  · rename_i h3
    cases h
    exact h3.2
  split at h
  · cases h; decide
  rename_i h4
  split at h
  · cases h; decide
  rename_i h5
  have hlen : p + rowN false (l.drop p) + 2 ≤ l.length := by
    rcases Nat.lt_or_ge (p + rowN false (l.drop p) + 1) l.length with g | g
    · omega
    · rw [List.getD_eq_getElem?_getD, List.getElem?_eq_none g] at h5
      exact absurd (by decide) h5
  split at h
  · rename_i e he
    cases h
    rw [val_err l _ k z hlen he]
    decide
  · split at h
    · rename_i ht
      cases h
      exact ht
    · cases h
theorem one_le {l : List UInt8} {p : Nat} {L : List Lb} {x : Lb} {k : Nat} (_hp : p ≤ l.length) (h : oneR l p L = .ok (x, k)) : k ≤ l.length := by
  unfold oneR at h
  split at h
  · cases h
  split at h
  · cases h
  split at h
  · cases h
  split at h
  · cases h
  split at h
  · cases h
  rename_i h5
  have hlen : p + rowN false (l.drop p) + 2 ≤ l.length := by
    rcases Nat.lt_or_ge (p + rowN false (l.drop p) + 1) l.length with g | g
    · omega
    · rw [List.getD_eq_getElem?_getD, List.getElem?_eq_none g] at h5
      exact absurd (by decide) h5
  split at h
  · cases h
  · rename_i q hq
    split at h
    · cases h
    · obtain ⟨t, j⟩ := q
      cases h
      exact (val_far l _ _ _ hlen hq).2.1
/-- What comes of a series' labels. -/
def finP (l nm : List UInt8) : Except (Int × Nat) (List Lb × Nat) → Except (Int × Nat) (List UInt8 × List Lb)
  | .error e => .error e
  | .ok (L, k) => if k = l.length then .ok (nm, L) else .error (5, k)
/-- What the document's Parse answers. -/
def TellsD (l : List UInt8) (B : Nat) (e : Ending) (W : World) : Prop :=
  (∃ (z : Int) (k : Nat), parR l = .error (z, k) ∧ e = .returned (.tuple #[.string ⟨#[]⟩, .slice none 0 0, .agg #[.int .i64 z, .int .i64 (k : Int)]])) ∨
  (∃ (n : List UInt8) (L : List Lb) (v : Value), parR l = .ok (n, L) ∧ e = .returned (.tuple #[.string ⟨n.toArray⟩, v, .agg #[.int .i64 0, .int .i64 0]]) ∧ OwnL B v L W)
theorem ret_par (tmps : Array Value) (g : Nat) (x y : Int) (w : World) (hp : tmps.getD 4 undef = .pointer (some ⟨g, 0, none⟩)) (c0 : w.cell? ⟨g, 0, none⟩ = some (.int .i64 x)) (c1 : w.cell? ⟨g, 1, none⟩ = some (.int .i64 y)) :
    (results Try.f19 tmps).run Try.prog w = .ok (.tuple #[tmps.getD 2 undef, tmps.getD 3 undef, .agg #[.int .i64 x, .int .i64 y]]) w := by
  rw [results_ttc (t := 2) (u := 3) (p := 4) (ty := 44) rfl, hp]
  simp [asAddr, load_wrong g x y w c0 c1, Result.andThen]
/-- The result that lies in memory, as it is at first; nothing else has changed. -/
structure PK (w W : World) : Prop where
  b0 : W.cell? ⟨w.heap.size, 0, none⟩ = some (.int .i64 0)
  b1 : W.cell? ⟨w.heap.size, 1, none⟩ = some (.int .i64 0)
  fb : ∀ k, W.frozen? ⟨w.heap.size, k, none⟩ = false
  bl : Below w.heap.size w W
theorem PK.below {w W W1 : World} (h : PK w W) (hb : Below W.heap.size W W1) : PK w W1 :=
  ⟨by rw [hb.cell (p := ⟨w.heap.size, 0, none⟩) (lt_of_cell h.b0)]; exact h.b0, by rw [hb.cell (p := ⟨w.heap.size, 1, none⟩) (lt_of_cell h.b1)]; exact h.b1,
   fun k => by rw [hb.frozen (p := ⟨w.heap.size, k, none⟩) (show w.heap.size < W.heap.size from lt_of_cell h.b0)]; exact h.fb k, h.bl.trans (hb.mono h.bl.size)⟩
theorem PK.new (w : World) (t : TypeId) : PK w (w.alloc (.cells #[.int .i64 0, .int .i64 0] t)) := ⟨by simp [go_sem], by simp [go_sem], fun k => by simp [go_sem], bel1 w _⟩
theorem PK.put {w W : World} (h : PK w W) (z k : Value) : Below w.heap.size w ((W.setCell ⟨w.heap.size, 0, none⟩ z).setCell ⟨w.heap.size, 1, none⟩ k) :=
  (h.bl.setCell (p := ⟨w.heap.size, 0, none⟩) (Nat.le_refl _) _).setCell (p := ⟨w.heap.size, 1, none⟩) (Nat.le_refl _) _
/-- A list of labels that grows behind the result. -/
structure PL (w : World) (L : List Lb) (v : Value) (W : World) : Prop where
  pk : PK w W
  own : OwnL (w.heap.size + 1) v L W
theorem PL.below {w : World} {L : List Lb} {v : Value} {W W1 : World} (h : PL w L v W) (hb : Below W.heap.size W W1) : PL w L v W1 := ⟨h.pk.below hb, h.own.below hb⟩
theorem PL.push {w : World} {L : List Lb} {v v' : Value} {W W1 : World} (s : PL w L v W) (ob : Obj) (x y : List UInt8) (hown : W1.ownsRow (w.heap.size + 1) 41 2 v' (L.length + 1) (flL L ++ [.string ⟨x.toArray⟩, .string ⟨y.toArray⟩])) (hgr : (W.alloc ob).grownBy W1 v.ownBlock) : PL w (L ++ [(x, y)]) v' W1 := by
  have s2 := s.below (bel1 W ob)
  have hrow : ∀ k, v.ownBlock = some k → w.heap.size + 1 ≤ k := fun k hk => by
    rcases s.own.2 with ⟨h1, _⟩ | ⟨b, cap, cur, hv, hb, _⟩
    · rw [h1] at hk; cases hk
    · rw [hv] at hk
      have : b = k := by injection hk
      omega
  have hbl : Below w.heap.size w W1 := s2.pk.bl.grown hgr s2.pk.bl.size (fun k hk => by have := hrow k hk; omega)
  have hlt := lt_of_cell s2.pk.b0
  have hh : W1.heap[w.heap.size]? = (W.alloc ob).heap[w.heap.size]? := hgr.block _ hlt (fun e => by have := hrow _ e.symm; omega)
  refine ⟨⟨?_, ?_, fun k => ?_, hbl⟩, ?_⟩
  · exact (World.cell?_of_block (w := W.alloc ob) (a := ⟨w.heap.size, 0, none⟩) hh).trans s2.pk.b0
  · exact (World.cell?_of_block (w := W.alloc ob) (a := ⟨w.heap.size, 1, none⟩) hh).trans s2.pk.b1
  · exact (World.frozen?_of_block (w := W.alloc ob) (a := ⟨w.heap.size, k, none⟩) hh).trans (s2.pk.fb k)
  · unfold OwnL
    rw [List.length_append, flL_append]
    exact hown
theorem OwnL.set {B : Nat} {v : Value} {L : List Lb} {W : World} (h : OwnL B v L W) {g o : Nat} (hg : g < B) (u : Value) : OwnL B v L (W.setCell ⟨g, o, none⟩ u) := h.ex (g := g) ((Ex.refl g W).set o u) hg
theorem cell_two_far (w : World) (o o' : Obj) (x y : Value) (t : TypeId) : ∀ j u, [x, y][j]? = some u → (((w.alloc o).alloc o').alloc (.cells #[x, y] t)).cell? ((⟨w.heap.size + 2, 0, none⟩ : Addr).add j) = some u := by
  have := cell_two_new ((w.alloc o).alloc o') x y t
  rw [show ((w.alloc o).alloc o').heap.size = w.heap.size + 2 from by simp] at this
  exact this
set_option maxHeartbeats 8000000 in
set_option maxRecDepth 100000 in
theorem dparse_any (l : List UInt8) (hl : l.length ≤ 140737488355328) (w : World) :
    Calls Try.prog 19 #[.string ⟨l.toArray⟩] w fun r w' => TellsD l w.heap.size r w' ∧ Below w.heap.size w w' := by
  obtain ⟨i0, hi0, hz0, hz1, hz2⟩ := info_parts infoLabel
  obtain ⟨n, hn⟩ : ∃ n, n = rowN true l := ⟨_, rfl⟩
  have hnl := rowN_le true l
  rw [← hn] at hnl
  obtain ⟨nm, hnm⟩ : ∃ nm, nm = l.take n := ⟨_, rfl⟩
  have hnml : nm.length = n := by rw [hnm, List.length_take]; omega
  obtain ⟨R, hR⟩ : ∃ R, R = labsF 17 l (n + 1) [] := ⟨_, rfl⟩
  have hP : parR l = if nameB nm = false then .error (9, 0)
    else if n = l.length then .ok (nm, [])
    else if preB (l.drop n) [123] = false then .error (5, n)
    else finP l nm R := by
    unfold parR
    rw [← hn, ← hnm, hR]
    cases labsF 17 l (n + 1) [] with
    | error e => rfl
    | ok t => rfl
  have htk := take_bytes l n
  rw [← hnm] at htk
  have HW : Hid (∀ W, Calls Try.prog 38 #[.string ⟨l.toArray⟩, .int .i64 0, .bool true] W fun r w' => r = .returned (.int .i64 (n : Int)) ∧ w' = W) := fun W => by rw [hn]; exact row_any l 0 true (by omega) (by omega) W
  have HN : Hid (∀ W, Calls Try.prog 33 #[.string ⟨nm.toArray⟩] W fun r w' => r = .returned (.bool (nameB nm)) ∧ w' = W) := fun W => name_any nm (by omega) W
  have HL : Hid (∀ (q : Nat) (L : List Lb) (ao : Option Addr) (b cap : Nat) (W : World), q ≤ l.length → (L ≠ [] → ao = some ⟨b, 0, none⟩) → L.length ≤ 9223372036854775807 → RowL W b 0 L → Calls Try.prog 39 #[.string ⟨l.toArray⟩, .int .i64 (q : Int), .slice ao L.length cap] W fun r w' => TellsO l q L r ∧ Below W.heap.size W w') := fun q L ao b cap W h1 h2 h3 h4 => done_any q l h1 hl ao b 0 cap L h2 h3 W h4
  have HP0 : Hid (PK w (w.alloc (.cells #[.int .i64 0, .int .i64 0] 44))) := PK.new w _
  have hn' : (n : Int) ≤ (l.length : Int) := by omega
  have HR0 : Hid (R = labsF (17 - 0) l (n + 1) []) := hR
  have HPP : Hid _ := hP
  clear hn hnm hnml hR hP
  go_enter Try.func19, Try.ntmps19
  go_upto_region 1 with fail
  generalize w.alloc (.cells #[.int .i64 0, .int .i64 0] 44) = W0 at *
  have hP := HPP.out
  clear HPP
  generalize nameB nm = nb at *
  cases nb
  · rw [if_pos rfl] at hP
    have HF : Hid _ := hP
    obtain ⟨b0, b1, fb, hbl⟩ := HP0.out
    clear hP HL HR0
    as_aux_lemma =>
      go_wp2_with (first | (go_at_call 38; refine (HW.out _).mono ?_; rintro e1 w1 ⟨rfl, hw⟩; subst w1) | (go_at_call 33; refine (HN.out _).mono ?_; rintro e1 w1 ⟨rfl, hw⟩; subst w1))
      (try simp only [Exit.inBlock, Exit.then]); refine bodyPost_ret (ret_par _ w.heap.size _ _ _ rfl (two_set b0 b1).1 (two_set b0 b1).2) rfl ?_
      exact ⟨Or.inl ⟨9, 0, HF.out, rfl⟩, HP0.out.put _ _⟩
  rw [if_neg (by decide)] at hP
  have HPP : Hid _ := hP
  clear hP
  have HQ0 : Hid (PL w [] (.slice (some ⟨W0.heap.size, 0, none⟩) 0 0) (W0.alloc (.cells #[] 41))) := by
    have hlt := lt_of_cell HP0.out.b0
    refine ⟨HP0.out.below (bel1 W0 _), rfl, Or.inr ⟨W0.heap.size, 0, #[], rfl, hlt, ?_, Nat.le_refl _, by unfold maxLen; omega, rfl, rfl⟩⟩
    show (W0.heap.push _)[W0.heap.size]? = _
    simp
  clear HP0
  go_upto_region 6 with (first | (go_at_call 38; refine (HW.out _).mono ?_; rintro e1 w1 ⟨rfl, hw⟩; subst w1) | (go_at_call 33; refine (HN.out _).mono ?_; rintro e1 w1 ⟨rfl, hw⟩; subst w1))
  clear HW HN
  generalize hv0 : Value.slice (some ⟨W0.heap.size, 0, none⟩) 0 0 = v0 at *
  have hvl : ∃ ao cap, v0 = .slice ao 0 cap := ⟨_, _, hv0.symm⟩
  clear hv0
  generalize W0.alloc (.cells #[] 41) = W1 at *
  by_cases g1 : n = l.length
  · have g1' : ((n : Int) == (l.length : Int)) = true := by rw [beq_iff_eq]; omega
    have HF : Hid (parR l = .ok (nm, [])) := by show _ = _; rw [HPP.out, if_pos g1]
    obtain ⟨b0, b1, fb, hbl⟩ := HQ0.out.pk
    have HO : Hid (OwnL w.heap.size v0 [] ((W1.setCell ⟨w.heap.size, 0, none⟩ (.int .i64 0)).setCell ⟨w.heap.size, 1, none⟩ (.int .i64 0))) := ((HQ0.out.own.set (by omega) _).set (by omega) _).mono (by omega)
    have HB : Hid _ := HQ0.out.pk.put (.int .i64 0) (.int .i64 0)
    clear HPP HL HR0 HQ0 g1
    as_aux_lemma =>
      go_wp2_with fail
      (try simp only [Exit.inBlock, Exit.then]); refine bodyPost_ret (ret_par _ w.heap.size _ _ _ rfl (two_set b0 b1).1 (two_set b0 b1).2) rfl ?_
      exact ⟨Or.inr ⟨nm, [], v0, HF.out, rfl, HO.out⟩, HB.out⟩
  have g1' : ((n : Int) == (l.length : Int)) = false := by rw [beq_eq_false_iff_ne]; omega
  have hlt : n < l.length := by omega
  have hlt' : (n : Int) < (l.length : Int) := by omega
  have hB : n < (ByteArray.mk l.toArray).size := by show n < l.toArray.size; simpa using hlt
  have hbe : ((ByteArray.mk l.toArray)[n]'hB).toNat = (l.getD n 0).toNat := by rw [get_at l n hlt]; rfl
  have hP := HPP.out
  rw [if_neg g1, pre_get l n 123 (by decide), show UInt8.toNat 123 = 123 from rfl] at hP
  clear HPP g1
  by_cases gc : (l.getD n 0).toNat = 123
  rotate_left
  · have tc : ((((ByteArray.mk l.toArray)[n]'hB).toNat : Int) != 123) = true := by rw [bne_iff_ne, hbe]; omega
    rw [if_pos (by rw [decide_eq_false gc])] at hP
    have HF : Hid _ := hP
    obtain ⟨b0, b1, fb, hbl⟩ := HQ0.out.pk
    have HB : Hid (∀ z k, Below w.heap.size w ((W1.setCell ⟨w.heap.size, 0, none⟩ z).setCell ⟨w.heap.size, 1, none⟩ k)) := fun z k => HQ0.out.pk.put z k
    clear hP HL HR0 HQ0 gc hbe
    as_aux_lemma =>
      go_wp2_with fail
      (try simp only [Exit.inBlock, Exit.then]); refine bodyPost_ret (ret_par _ w.heap.size _ _ _ rfl (two_set b0 b1).1 (two_set b0 b1).2) rfl ?_
      exact ⟨Or.inl ⟨5, n, HF.out, rfl⟩, HB.out _ _⟩
  have tc : ((((ByteArray.mk l.toArray)[n]'hB).toNat : Int) != 123) = false := by rw [bne_eq_false_iff_eq, hbe]; omega
  rw [if_neg (by rw [decide_eq_true gc]; decide)] at hP
  have HPF : Hid (parR l = finP l nm R) := hP
  clear hP gc hbe
  go_wp2_with fail
  go_loopw [5, 7] (fun a v W => ∃ (q : Nat) (L : List Lb), q < l.length ∧ L.length ≤ 16 ∧ a = .int .i64 (q : Int) ∧ sln v = L.length ∧ Hid (R = labsF (17 - L.length) l (q + 1) L) ∧ Hid (PL w L v W)) (fun _ v _ => 17 - sln v)
  case atStart =>
    obtain ⟨ao, cap, hv⟩ := hvl
    exact ⟨n, [], hlt, by simp, rfl, by rw [hv]; rfl, HR0, HQ0⟩
  case round =>
    clear HR0 HQ0 hvl
    obtain ⟨q, L, hq, hL16, rfl, hsl, HR, HI⟩ := hrel
    obtain ⟨ao, b, cap, rfl, hao, hrow, hcp, hcm⟩ := HI.out.own.open
    obtain ⟨q1, hq1⟩ : ∃ q1, q1 = q + 1 := ⟨_, rfl⟩
    have hq1' : (q : Int) + 1 = (q1 : Int) := by omega
    have hq1l : q1 ≤ l.length := by omega
    have hq1b : (q1 : Int) ≤ 140737488355328 := by omega
    rw [← hq1] at HR
    have HL1 : HidC _ _ _ _ _ := HL.out q1 L ao b cap wr hq1l hao (by omega) hrow
    clear HL hao hrow hsl hq1
    as_aux_lemma =>
    go_wp2_with fail
    refine (HL1.out).mono ?_
    rintro e w1 ⟨hT, hb⟩
    have HI1 : Hid _ := HI.out.below hb
    clear HL1 HI hb
    rcases hT with ⟨z, k, x, y, m, ho, rfl⟩ | ⟨a, c, k, ho, rfl⟩
    · have hz := one_ne hq1l ho
      have HE : Hid (parR l = .error (z, k)) := by
        show _ = _
        rw [HPF.out, HR.out, show 17 - L.length = (16 - L.length) + 1 from by omega, labsF, ho]
        rfl
      have hz' : (z != 0) = true := by simpa using hz
      have HP2 : Hid (∀ o o', PK w ((w1.alloc o).alloc o')) := fun o o' => (HI1.out.pk.below (bel1 w1 o)).below (bel1 _ o')
      have hgw : w.heap.size + 1 ≤ w1.heap.size := lt_of_cell HI1.out.pk.b0
      clear ho hz HPF HR HI1
      as_aux_lemma =>
        go_upto_region 12 with fail
        have HP3 : Hid (PK w ((w1.alloc (.cells #[.string x, .string y] 41)).alloc (.cells #[.int .i64 z, .int .i64 (k : Int)] 44))) := HP2.out _ _
        have c0 : ((w1.alloc (.cells #[.string x, .string y] 41)).alloc (.cells #[.int .i64 z, .int .i64 (k : Int)] 44)).cell? ⟨w1.heap.size + 1, 0, none⟩ = some (.int .i64 z) := by simp [go_sem]
        have c1 : ((w1.alloc (.cells #[.string x, .string y] 41)).alloc (.cells #[.int .i64 z, .int .i64 (k : Int)] 44)).cell? ⟨w1.heap.size + 1, 1, none⟩ = some (.int .i64 (k : Int)) := by simp [go_sem]
        clear HP2
        obtain ⟨g, hg⟩ : ∃ g, g = w1.heap.size + 1 := ⟨_, rfl⟩
        have hgw2 : w.heap.size + 2 ≤ g := by omega
        rw [← hg] at c0 c1 ⊢
        generalize (w1.alloc (.cells #[.string x, .string y] 41)).alloc (.cells #[.int .i64 z, .int .i64 (k : Int)] 44) = W5 at *
        obtain ⟨b0, b1, fb, hbl⟩ := HP3.out
        clear hg hgw
        go_region
        go_wp2_with fail
        have qq := two_set (x := .int .i64 z) (y := .int .i64 (k : Int)) b0 b1
        (try simp only [Exit.inBlock, Exit.then]); refine bodyPost_ret (ret_par _ w.heap.size z (k : Int) _ rfl qq.1 qq.2) rfl ?_
        exact ⟨Or.inl ⟨z, k, HE.out, rfl⟩, bel_drew (HP3.out.put _ _)⟩
    · have hkl := one_le hq1l ho
      have hlt2 : L.length < 16 := by
        rcases Nat.lt_or_ge L.length 16 with h | h
        · exact h
        · rw [one_many l q1 L (by omega)] at ho; cases ho
      have hR2 : R = if preB (l.drop k) [125] then .ok (L ++ [(a, c)], k + 1) else if preB (l.drop k) [44] then labsF (17 - (L.length + 1)) l (k + 1) (L ++ [(a, c)]) else .error (5, k) := by
        rw [HR.out, show 17 - L.length = (17 - (L.length + 1)) + 1 from by omega, labsF, ho]
      rw [pre_get l k 125 (by decide), pre_get l k 44 (by decide), show UInt8.toNat 125 = 125 from rfl, show UInt8.toNat 44 = 44 from rfl] at hR2
      have HI2 : Hid (PL w L (.slice ao L.length cap) ((w1.alloc (.cells #[.string ⟨a.toArray⟩, .string ⟨c.toArray⟩] 41)).alloc (.cells #[.int .i64 0, .int .i64 0] 44))) := (HI1.out.below (bel1 w1 _)).below (bel1 _ _)
      have hsz : w.heap.size + 1 ≤ w1.heap.size := lt_of_cell HI1.out.pk.b0
      have HRR2 : Hid (R = _) := hR2
      clear ho HR HI1 hR2
      go_upto_region 15 with (first | (at_builtin; refine wpList_append_own _ rfl _ _ 22 rfl (w.heap.size + 1) 41 i0 (.agg #[.string ⟨#[]⟩, .string ⟨#[]⟩]) 2 32 Try.underlying22 hi0 hz0 hz1 hz2 rfl (by decide) _ _ _ rfl (World.ownsRow.alloc HI2.out.own _) ⟨_, 0, none⟩ 1 1 [_, _] rfl rfl (cell_two_far _ _ _ _ _ _) (by intro u hu; simp at hu; rcases hu with rfl | rfl <;> rfl) (by unfold maxLen; omega) (by omega) (by simp; omega) ?_; intro v' w7 hown hgrow hnil; have HI7 : Hid (PL w (L ++ [(a, c)]) v' w7) := HI2.out.push _ a c hown hgrow; clear hown hgrow hnil HI2))
      obtain ⟨ao', b', cap', hv', _, _, _, _⟩ := HI7.out.own.open
      have hsl : sln v' = L.length + 1 := by rw [hv', List.length_append]; rfl
      clear hv'
      obtain ⟨b0, b1, fb, hbl⟩ := HI7.out.pk
      have HB7 : Hid (∀ z k, Below w.heap.size w ((w7.setCell ⟨w.heap.size, 0, none⟩ z).setCell ⟨w.heap.size, 1, none⟩ k)) := fun z k => HI7.out.pk.put z k
      have hR2 := HRR2.out
      by_cases hk : k < l.length
      · have hke : ((k : Int) == (l.length : Int)) = false := by rw [beq_eq_false_iff_ne]; omega
        have hkl' : (k : Int) < (l.length : Int) := by omega
        have hBk : k < (ByteArray.mk l.toArray).size := by show k < l.toArray.size; simpa using hk
        have hbk : ((ByteArray.mk l.toArray)[k]'hBk).toNat = (l.getD k 0).toNat := by rw [get_at l k hk]; rfl
        by_cases g125 : (l.getD k 0).toNat = 125
        · have t44 : ((((ByteArray.mk l.toArray)[k]'hBk).toNat : Int) != 44) = true := by rw [bne_iff_ne, hbk]; omega
          have t125 : ((((ByteArray.mk l.toArray)[k]'hBk).toNat : Int) != 125) = false := by rw [bne_eq_false_iff_eq, hbk]; omega
          have e125 : ((((ByteArray.mk l.toArray)[k]'hBk).toNat : Int) == 125) = true := by rw [beq_iff_eq, hbk]; omega
          rw [if_pos (by simpa using g125)] at hR2
          obtain ⟨k1, hk1⟩ : ∃ k1, k1 = k + 1 := ⟨_, rfl⟩
          have hk1' : (k : Int) + 1 = (k1 : Int) := by omega
          have hk1b : (k1 : Int) ≤ 140737488355328 := by omega
          have HPQ : Hid (parR l = if k1 = l.length then .ok (nm, L ++ [(a, c)]) else .error (5, k1)) := by show _ = _; rw [HPF.out, hR2, hk1]; rfl
          by_cases ge : k1 = l.length
          · have ge' : ¬ (k1 : Int) < (l.length : Int) := by omega
            have HF : Hid (parR l = .ok (nm, L ++ [(a, c)])) := by show _ = _; rw [HPQ.out, if_pos ge]
            have HO : Hid (OwnL w.heap.size v' (L ++ [(a, c)]) ((w7.setCell ⟨w.heap.size, 0, none⟩ (.int .i64 0)).setCell ⟨w.heap.size, 1, none⟩ (.int .i64 0))) := ((HI7.out.own.set (by omega) _).set (by omega) _).mono (by omega)
            clear HPQ HPF HRR2 hR2 HI7 g125 hbk hk1 ge
            as_aux_lemma =>
              go_wp2_with fail
              (try simp only [Exit.inBlock, Exit.then]); refine bodyPost_ret (ret_par _ w.heap.size _ _ _ rfl (two_set b0 b1).1 (two_set b0 b1).2) rfl ?_
              exact ⟨Or.inr ⟨nm, L ++ [(a, c)], v', HF.out, rfl, HO.out⟩, HB7.out _ _⟩
          · have ge' : (k1 : Int) < (l.length : Int) := by omega
            have HF : Hid (parR l = .error (5, k1)) := by show _ = _; rw [HPQ.out, if_neg ge]
            clear HPQ HPF HRR2 hR2 HI7 g125 hbk hk1 ge
            as_aux_lemma =>
              go_wp2_with fail
              (try simp only [Exit.inBlock, Exit.then]); refine bodyPost_ret (ret_par _ w.heap.size _ _ _ rfl (two_set b0 b1).1 (two_set b0 b1).2) rfl ?_
              exact ⟨Or.inl ⟨5, k1, HF.out, rfl⟩, HB7.out _ _⟩
        · have t125 : ((((ByteArray.mk l.toArray)[k]'hBk).toNat : Int) != 125) = true := by rw [bne_iff_ne, hbk]; omega
          have e125 : ((((ByteArray.mk l.toArray)[k]'hBk).toNat : Int) == 125) = false := by rw [beq_eq_false_iff_ne, hbk]; omega
          rw [if_neg (by simpa using g125)] at hR2
          by_cases g44 : (l.getD k 0).toNat = 44
          · have t44 : ((((ByteArray.mk l.toArray)[k]'hBk).toNat : Int) != 44) = false := by rw [bne_eq_false_iff_eq, hbk]; omega
            rw [if_pos (by simpa using g44)] at hR2
            have HE : Hid (R = labsF (17 - (L ++ [(a, c)]).length) l (k + 1) (L ++ [(a, c)])) := by show _ = _; rw [hR2, List.length_append]; rfl
            clear HPF HRR2 hR2 g125 g44 hbk HB7
            as_aux_lemma =>
              go_wp2_with fail
              exact ⟨⟨k, L ++ [(a, c)], hk, by simp; omega, rfl, by rw [hsl]; simp, HE, HI7⟩, by show 17 - sln v' < 17 - L.length; rw [hsl]; omega⟩
          · have t44 : ((((ByteArray.mk l.toArray)[k]'hBk).toNat : Int) != 44) = true := by rw [bne_iff_ne, hbk]; omega
            rw [if_neg (by simpa using g44)] at hR2
            have HF : Hid (parR l = .error (5, k)) := by show _ = _; rw [HPF.out, hR2]; rfl
            clear HPF HRR2 hR2 HI7 g125 g44 hbk
            as_aux_lemma =>
              go_wp2_with fail
              (try simp only [Exit.inBlock, Exit.then]); refine bodyPost_ret (ret_par _ w.heap.size _ _ _ rfl (two_set b0 b1).1 (two_set b0 b1).2) rfl ?_
              exact ⟨Or.inl ⟨5, k, HF.out, rfl⟩, HB7.out _ _⟩
      · have hke : ((k : Int) == (l.length : Int)) = true := by rw [beq_iff_eq]; omega
        have hd : (l.getD k 0).toNat = 0 := by rw [List.getD_eq_getElem?_getD, List.getElem?_eq_none (by omega)]; rfl
        rw [hd] at hR2
        have HF : Hid (parR l = .error (5, k)) := by
          show _ = _
          rw [HPF.out, hR2]
          rfl
        clear HPF HRR2 hR2 HI7 hd
        as_aux_lemma =>
          go_wp2_with fail
          (try simp only [Exit.inBlock, Exit.then]); refine bodyPost_ret (ret_par _ w.heap.size _ _ _ rfl (two_set b0 b1).1 (two_set b0 b1).2) rfl ?_
          exact ⟨Or.inl ⟨5, k, HF.out, rfl⟩, HB7.out _ _⟩
end Go.Proofs.Ytmphajfhilpgeab
