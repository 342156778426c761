/- sorted, the document's. Own work of the verifier. -/
import Derived.Test.YtckdkcnnfjbdmaaGreatZA2
namespace Go.Proofs.YtckdkcnnfjbdmaaGreat
open Go.RowKit

/-- What sorted tells. -/
def Sd (W : World) (L : List Cn) (e : Ending) (w' : World) : Prop := ∃ v' S, e = .returned v' ∧ Srt S ∧ S.Perm L ∧ GC W.heap.size W v' S w'
theorem own_nil (w : World) (B : Nat) : w.ownsRow B 57 2 (.slice none 0 0) 0 [] := ⟨rfl, Or.inl ⟨rfl, rfl⟩⟩
theorem srt_short {L : List Cn} (h : L.length < 2) : Srt L := by
  match L, h with
  | [], _ => exact List.Pairwise.nil
  | [c], _ => exact List.pairwise_singleton _ _
theorem gc_of {w w' : World} {v' : Value} {L : List Cn} (hown : w'.ownsRow w.heap.size 57 2 v' (0 + L.length) ([] ++ fl L)) (hg : w.grownBy w' none) : GC w.heap.size w v' L w' := by
  rw [Nat.zero_add, List.nil_append] at hown
  exact ⟨hown, (Below.refl w.heap.size w).grown hg (Nat.le_refl _) (fun k e => by cases e), hg.size⟩
set_option maxHeartbeats 1000000 in
theorem sorted_short (b o cap : Nat) (L : List Cn) (hl : L.length < 2) (w : World) (hR : RowC w b o L) :
    Calls Tryz.prog 82 #[.slice (some ⟨b, o, none⟩) L.length cap] w fun e w' => Sd w L e w' := by
  obtain ⟨i0, hi, hz0, hz1, hz2⟩ := info_parts infoC
  have t1 : (L.length : Int) < 2 := by omega
  have HC : Hid _ := hR.cells
  go_enter Tryz.func82, Tryz.ntmps82
  go_wp2_with (at_builtin; refine wpList_append_own _ rfl _ _ 42 rfl w.heap.size 57 i0 (.agg #[.int .i64 0, .int .u64 0]) 2 16 Tryz.underlying42 hi hz0 hz1 hz2 rfl (by decide) _ _ _ rfl (own_nil _ _) ⟨b, o, none⟩ L.length cap (fl L) rfl (fl_length L) HC.out (fl_one L) (by unfold maxLen; omega) (by omega) (by omega) ?_; intro v' w' hown hgrow hnil)
  go_ret
  exact ⟨v', L, rfl, srt_short hl, List.Perm.refl _, gc_of hown hgrow⟩
theorem sorted_nil (w : World) :
    Calls Tryz.prog 82 #[.slice none 0 0] w fun e w' => Sd w [] e w' := by
  go_enter Tryz.func82, Tryz.ntmps82
  go_wp2_with fail
  go_ret
  exact ⟨_, [], rfl, List.Pairwise.nil, List.Perm.refl _, ⟨own_nil _ _, Below.refl _ _, Nat.le_refl _⟩⟩
theorem RowC.take {w : World} {b o : Nat} {L : List Cn} (h : RowC w b o L) (k : Nat) : RowC w b o (L.take k) := fun i hi => by
  rw [List.length_take] at hi
  rw [List.getElem_take]
  exact h i (by omega)
theorem RowC.drop {w : World} {b o : Nat} {L : List Cn} (h : RowC w b o L) (k : Nat) : RowC w b (o + k * 2) (L.drop k) := fun i hi => by
  rw [List.length_drop] at hi
  rw [List.getElem_drop]
  have := h (k + i) (by omega)
  rw [show o + (k + i) * 2 = o + k * 2 + i * 2 by omega] at this
  exact this
theorem sd_open {W w' : World} {A : List Cn} {e : Ending} {m : Nat} (h : Sd W A e w') (hm : A.length = m) (h1 : 1 ≤ m) : ∃ g cap S, e = .returned (.slice (some ⟨g, 0, none⟩) m cap) ∧ Srt S ∧ S.Perm A ∧ RowC w' g 0 S ∧ Below W.heap.size W w' ∧ S.length = m ∧ m ≤ cap := by
  obtain ⟨v', S, rfl, hs, hp, hg⟩ := h
  have hl : S.length = m := by rw [hp.length_eq, hm]
  obtain ⟨ao, b, o, cap, rfl, ha, hr⟩ := hg.sc
  rcases hg.own.2 with ⟨k1, k2⟩ | ⟨g, cap', cur, hv, _⟩
  · omega
  · rename_i hrest
    have hcp := hrest.2.2.1
    cases hv
    have hne : S ≠ [] := fun e => by rw [e] at hl; simp at hl; omega
    have := ha hne
    cases this
    rw [hl]
    exact ⟨_, _, S, rfl, hs, hp, hr, hg.below, hl, by omega⟩
/-- The length of a slice. -/
def slen : Value → Nat
  | .slice _ n _ => n
  | _ => 0
/-- What the merging of two rising lists keeps. -/
structure MI (A B : List Cn) (i j : Nat) (O : List Cn) : Prop where
  srt : Srt O
  la : ∀ c ∈ O, ∀ d ∈ A.drop i, c.1 ≤ d.1
  lb : ∀ c ∈ O, ∀ d ∈ B.drop j, c.1 ≤ d.1
  perm : (O ++ (A.drop i ++ B.drop j)).Perm (A ++ B)
  len : O.length = i + j
theorem mi_start (A B : List Cn) : MI A B 0 0 [] := ⟨List.Pairwise.nil, (fun c hc => by cases hc), (fun c hc => by cases hc), by simp, rfl⟩
theorem srt_snoc {O : List Cn} {x : Cn} (h : Srt O) (hx : ∀ c ∈ O, c.1 ≤ x.1) : Srt (O ++ [x]) := List.pairwise_append.2 ⟨h, List.pairwise_singleton _ _, fun a ha b hb => by rw [List.mem_singleton.1 hb]; exact hx a ha⟩
theorem srt_drop_le {A : List Cn} (h : Srt A) {i : Nat} (hi : i < A.length) : ∀ d ∈ A.drop i, A[i].1 ≤ d.1 := by
  rw [List.drop_eq_getElem_cons hi]
  intro d hd
  rcases List.mem_cons.1 hd with rfl | hd
  · exact Int.le_refl _
  · have hp : Srt (A.drop i) := List.Pairwise.sublist (List.drop_sublist _ _) h
    rw [List.drop_eq_getElem_cons hi] at hp
    exact (List.pairwise_cons.1 hp).1 d hd
theorem MI.left {A B O : List Cn} {i j : Nat} (h : MI A B i j O) (hA : Srt A) (hB : Srt B) (hi : i < A.length) (hj : j < B.length) (hle : A[i].1 ≤ B[j].1) : MI A B (i + 1) j (O ++ [A[i]]) := by
  have hm : A[i] ∈ A.drop i := by rw [List.drop_eq_getElem_cons hi]; exact List.mem_cons_self
  refine ⟨srt_snoc h.srt (fun c hc => h.la c hc _ hm), ?_, ?_, ?_, by rw [List.length_append, h.len, List.length_singleton]; omega⟩
  · intro c hc d hd
    have hd' : d ∈ A.drop i := by rw [List.drop_eq_getElem_cons hi]; exact List.mem_cons_of_mem _ hd
    rcases List.mem_append.1 hc with k | k
    · exact h.la c k d hd'
    · rw [List.mem_singleton.1 k]; exact srt_drop_le hA hi d hd'
  · intro c hc d hd
    rcases List.mem_append.1 hc with k | k
    · exact h.lb c k d hd
    · rw [List.mem_singleton.1 k]
      have := srt_drop_le hB hj d hd
      omega
  · have e : O ++ [A[i]] ++ (A.drop (i + 1) ++ B.drop j) = O ++ (A.drop i ++ B.drop j) := by rw [List.drop_eq_getElem_cons hi, List.append_assoc]; rfl
    rw [e]
    exact h.perm
theorem MI.right {A B O : List Cn} {i j : Nat} (h : MI A B i j O) (hA : Srt A) (hB : Srt B) (hi : i < A.length) (hj : j < B.length) (hle : ¬ A[i].1 ≤ B[j].1) : MI A B i (j + 1) (O ++ [B[j]]) := by
  have hm : B[j] ∈ B.drop j := by rw [List.drop_eq_getElem_cons hj]; exact List.mem_cons_self
  refine ⟨srt_snoc h.srt (fun c hc => h.lb c hc _ hm), ?_, ?_, ?_, by rw [List.length_append, h.len, List.length_singleton]; omega⟩
  · intro c hc d hd
    rcases List.mem_append.1 hc with k | k
    · exact h.la c k d hd
    · rw [List.mem_singleton.1 k]
      have := srt_drop_le hA hi d hd
      omega
  · intro c hc d hd
    have hd' : d ∈ B.drop j := by rw [List.drop_eq_getElem_cons hj]; exact List.mem_cons_of_mem _ hd
    rcases List.mem_append.1 hc with k | k
    · exact h.lb c k d hd'
    · rw [List.mem_singleton.1 k]; exact srt_drop_le hB hj d hd'
  · refine List.Perm.trans ?_ h.perm
    rw [List.drop_eq_getElem_cons hj, List.append_assoc]
    refine List.Perm.append_left _ ?_
    rw [List.singleton_append]
    exact List.perm_middle.symm
/-- At the end. -/
theorem MI.fin {A B O : List Cn} {i j : Nat} (h : MI A B i j O) (hA : Srt A) (hB : Srt B) (he : A.drop i = [] ∨ B.drop j = []) : Srt (O ++ A.drop i ++ B.drop j) ∧ (O ++ A.drop i ++ B.drop j).Perm (A ++ B) := by
  refine ⟨?_, by rw [List.append_assoc]; exact h.perm⟩
  have a1 : Srt (A.drop i) := List.Pairwise.sublist (List.drop_sublist _ _) hA
  have b1 : Srt (B.drop j) := List.Pairwise.sublist (List.drop_sublist _ _) hB
  rcases he with e | e
  · rw [e, List.append_nil]
    exact List.pairwise_append.2 ⟨h.srt, b1, h.lb⟩
  · rw [e, List.append_nil]
    exact List.pairwise_append.2 ⟨h.srt, a1, h.la⟩
theorem gc_new (w : World) : GC w.heap.size w (.slice (some ⟨w.heap.size, 0, none⟩) 0 0) [] (w.alloc (.cells #[] 57)) := by
  refine ⟨⟨rfl, .inr ⟨w.heap.size, 0, #[], rfl, Nat.le_refl _, ?_, Nat.le_refl _, by unfold maxLen; omega, rfl, rfl⟩⟩, (Below.refl _ _).alloc (Nat.le_refl _) _, by simp⟩
  show (w.heap.push _)[w.heap.size]? = _
  simp
theorem cell_two_new (w : World) (x y : Value) (t : TypeId) : ∀ j u, [x, y][j]? = some u → (w.alloc (.cells #[x, y] t)).cell? ((⟨w.heap.size, 0, none⟩ : Addr).add j) = some u := by
  intro j u hu
  rw [Addr.add_lit]
  unfold World.cell?
  have hh : (w.alloc (.cells #[x, y] t)).heap[w.heap.size]? = some (.cells #[x, y] t) := by
    show (w.heap.push _)[w.heap.size]? = _
    simp
  rw [hh]
  match j, hu with
  | 0, hu => simpa using hu
  | 1, hu => simpa using hu
  | j + 2, hu => simp at hu
theorem two_one (x : Int) (y : Nat) : ∀ u ∈ [Value.int .i64 x, Value.int .u64 (y : Int)], u.oneCell' = true := by
  intro u hu
  simp at hu
  rcases hu with rfl | rfl <;> rfl
theorem GC.drew {B : Nat} {W0 w : World} {v : Value} {xs : List Cn} (h : GC B W0 v xs w) : GC B W0 v xs w.drew := ⟨h.own, h.below.drew, h.size⟩
theorem GC.grow {B : Nat} {W0 w w1 w' : World} {v v' : Value} {xs ys : List Cn} (h : GC B W0 v xs w) (hb : Below B W0 w1) (hs : B ≤ w1.heap.size) (hown : w'.ownsRow B 57 2 v' (xs.length + ys.length) (fl xs ++ fl ys)) (hg : w1.grownBy w' v.ownBlock) : GC B W0 v' (xs ++ ys) w' := by
  refine ⟨by rw [List.length_append, fl_append]; exact hown, ?_, by have := hg.size; omega⟩
  refine hb.grown hg hs (fun k e => ?_)
  rcases h.own.2 with ⟨rfl, _⟩ | ⟨g, cap, cur, rfl, hB, _⟩
  · cases e
  · cases e; exact hB
theorem GC.push {B : Nat} {W0 w w' : World} {v v' : Value} {xs : List Cn} (h : GC B W0 v xs w) (x : Cn) (ob : Obj) (hown : w'.ownsRow B 57 2 v' (xs.length + 1) (fl xs ++ [.int .i64 x.1, .int .u64 (x.2 : Int)])) (hg : (w.alloc ob).grownBy w' v.ownBlock) : GC B W0 v' (xs ++ [x]) w' :=
  h.grow (ys := [x]) (h.below.alloc h.size _) (by simp; have := h.size; omega) hown hg
theorem GC.rebase {W0 W2 w : World} {v : Value} {xs : List Cn} (h : GC W2.heap.size W2 v xs w) (hb : Below W0.heap.size W0 W2) : GC W0.heap.size W0 v xs w := by
  have hs := hb.size
  refine ⟨⟨h.own.1, ?_⟩, hb.trans (h.below.mono hs), by have := h.size; omega⟩
  rcases h.own.2 with k | ⟨g, cap, cur, hv, hB, hrest⟩
  · exact Or.inl k
  · exact Or.inr ⟨g, cap, cur, hv, by omega, hrest⟩
set_option maxRecDepth 10000 in
set_option maxHeartbeats 4000000 in
theorem sorted_long (b o cap : Nat) (L : List Cn) (hl : 2 ≤ L.length) (hl2 : L.length ≤ 4194304) (hcap : L.length ≤ cap) (ih : ∀ (A : List Cn) (b o cap : Nat) (W : World), A.length < L.length → A.length ≤ cap → RowC W b o A → Calls Tryz.prog 82 #[.slice (some ⟨b, o, none⟩) A.length cap] W fun e w' => Sd W A e w') (w : World) (hR : RowC w b o L) :
    Calls Tryz.prog 82 #[.slice (some ⟨b, o, none⟩) L.length cap] w fun e w' => Sd w L e w' := by
  obtain ⟨i0, hi, hz0, hz1, hz2⟩ := info_parts infoC
  have t1 : ¬ (L.length : Int) < 2 := by omega
  obtain ⟨h, hh, h1, h2⟩ : ∃ h : Nat, (L.length : Int) / 2 = (h : Int) ∧ 1 ≤ h ∧ h < L.length := ⟨L.length / 2, by omega, by omega, by omega⟩
  obtain ⟨n, hn⟩ : ∃ n, L.length = n := ⟨_, rfl⟩
  have HI : Hid _ := ih
  have HN : Hid _ := hn
  rw [hn] at hh h2 hl hl2 hcap t1 HI ⊢
  clear ih hn
  have c1 : ¬ (cap : Int) < (h : Int) := by omega
  have c2 : (h : Int) ≤ (n : Int) := by omega
  have H1 : Hid (∀ W, W = w → Calls Tryz.prog 82 #[.slice (some ⟨b, o, none⟩) h cap] W fun e w' => Sd W (L.take h) e w') := fun W e => by
    have hlen : (L.take h).length = h := by rw [List.length_take, HN.out]; omega
    have := HI.out (L.take h) b o cap W (by rw [hlen]; exact h2) (by rw [hlen]; omega) (by rw [e]; exact hR.take h)
    rw [hlen] at this
    exact this
  have H2 : Hid (∀ W, Below w.heap.size w W → Calls Tryz.prog 82 #[.slice (some ⟨b, o + h * 2, none⟩) (n - h) (cap - h)] W fun e w' => Sd W (L.drop h) e w') := fun W e => by
    have hlen : (L.drop h).length = n - h := by rw [List.length_drop, HN.out]
    have := HI.out (L.drop h) b (o + h * 2) (cap - h) W (by rw [hlen]; omega) (by rw [hlen]; omega) ((hR.below e (fun k => hR.lt k)).drop h)
    rw [hlen] at this
    exact this
  have hl1 : Hid ((L.take h).length = h ∧ (L.drop h).length = n - h) := ⟨by rw [List.length_take, HN.out]; omega, by rw [List.length_drop, HN.out]⟩
  clear HI
  go_enter Tryz.func82, Tryz.ntmps82
  go_wp2_with (first
    | (go_at_call 82; with_reducible refine (H1.out _ rfl).mono ?_; rintro e w1 hsd1; obtain ⟨g1, k1, S1, rfl, hs1, hp1, hr1, hb1, hn1, hk1⟩ := sd_open hsd1 hl1.out.1 h1)
    | (go_at_call 82; with_reducible refine (H2.out _ hb1).mono ?_; rintro e w2 hsd2; obtain ⟨g2, k2, S2, rfl, hs2, hp2, hr2, hb2, hn2, hk2⟩ := sd_open hsd2 hl1.out.2 (by omega)))
  have hr1' := hr1.below hb2 (fun k => hr1.lt k)
  have HR1 : Hid (RowC w2 g1 0 S1) := hr1'
  have HR2 : Hid (RowC w2 g2 0 S2) := hr2
  have HP : Hid ((S1 ++ S2).Perm L) := by
    have := hp1.append hp2
    rw [List.take_append_drop] at this
    exact this
  have HS : Hid (Srt S1 ∧ Srt S2) := ⟨hs1, hs2⟩
  have HB : Hid (Below w.heap.size w w2) := bt hb1 hb2
  obtain ⟨m, hm⟩ : ∃ m, m = n - h := ⟨_, rfl⟩
  rw [← hm] at hn2 hk2 ⊢
  have hm1 : 1 ≤ m := by omega
  have hm2 : h + m ≤ 4194304 := by omega
  have HMm : Hid _ := hm
  clear hm
  clear hr1 hr1' hr2 hp1 hp2 hs1 hs2 hb1 hb2 hsd1 hsd2 H1 H2
  go_loopw [3, 4, 5] (fun a c d wr => ∃ (i j : Nat) (O : List Cn) (x1 x2 ka kb : Nat), i ≤ h ∧ j ≤ m ∧ a = .slice (some ⟨g1, x1, none⟩) (h - i) ka ∧ c = .slice (some ⟨g2, x2, none⟩) (m - j) kb ∧ h - i ≤ ka ∧ m - j ≤ kb ∧ (i < h → x1 = i * 2) ∧ (j < m → x2 = j * 2) ∧ Hid (GC w2.heap.size w2 d O wr) ∧ Hid (MI S1 S2 i j O)) (fun a c _ _ => slen a + slen c)
  case atStart => exact ⟨0, 0, [], 0, 0, k1, k2, by omega, by omega, rfl, rfl, by omega, by omega, fun _ => rfl, fun _ => rfl, gc_new w2, mi_start S1 S2⟩
  case round =>
    obtain ⟨i, j, O, x1, x2, ka, kb, hi1, hj1, rfl, rfl, hka, hkb, hx1, hx2, hG, hM⟩ := hrel
    by_cases hlt : i < h ∧ j < m
    · obtain ⟨hlt1, hlt2⟩ := hlt
      obtain rfl := hx1 hlt1
      obtain rfl := hx2 hlt2
      have u1 : i < S1.length := by omega
      have u2 : j < S2.length := by omega
      have hbw : Below w2.heap.size w2 wr := hG.out.below
      obtain ⟨q1, q2⟩ := (HR1.out.below hbw (fun k => HR1.out.lt k)) i u1
      obtain ⟨q3, q4⟩ := (HR2.out.below hbw (fun k => HR2.out.lt k)) j u2
      rw [Nat.zero_add] at q1 q2 q3 q4
      have HL : Hid (S1[i].1 ≤ S2[j].1 → MI S1 S2 (i + 1) j (O ++ [S1[i]])) := fun k => hM.out.left HS.out.1 HS.out.2 u1 u2 k
      have HRt : Hid (¬ S1[i].1 ≤ S2[j].1 → MI S1 S2 i (j + 1) (O ++ [S2[j]])) := fun k => hM.out.right HS.out.1 HS.out.2 u1 u2 k
      have hol := hM.out.len
      obtain ⟨x, y, hxy⟩ : ∃ x y, S1[i] = (x, y) := ⟨_, _, rfl⟩
      obtain ⟨z, t, hzt⟩ : ∃ z t, S2[j] = (z, t) := ⟨_, _, rfl⟩
      rw [hxy] at q1 q2 HL HRt
      rw [hzt] at q3 q4 HL HRt
      obtain ⟨p, hp⟩ : ∃ p, h - i = p := ⟨_, rfl⟩
      obtain ⟨q, hq⟩ : ∃ q, m - j = q := ⟨_, rfl⟩
      have s1 : (0 : Int) < (p : Int) := by omega
      have s2 : (0 : Int) < (q : Int) := by omega
      rw [hp] at hka
      rw [hq] at hkb
      rw [hp, hq]
      have HPq : Hid (h - i = p ∧ m - j = q) := ⟨hp, hq⟩
      have e1 : p - 1 = h - (i + 1) := by omega
      have e2 : q - 1 = m - (j + 1) := by omega
      have HE : Hid _ := And.intro e1 e2
      have hp1 : 1 ≤ p := by omega
      have hq1 : 1 ≤ q := by omega
      have hsz : w2.heap.size ≤ wr.heap.size := hG.out.size
      have hol2 : O.length ≤ 4194304 := by omega
      clear hxy hzt e1 e2 hp hq
      by_cases hle : x ≤ z
      · have hMn : Hid _ := HL.out hle
        have d1 : decide (x ≤ z) = true := decide_eq_true hle
        clear HL HRt
        go_wp2_with fail
        go_region
        have hGd := hG.out.drew
        rcases Nat.lt_or_ge 1 ka with kc | kc
        · have kc1 : ¬ ka - 1 = 0 := by omega
          go_wp2_with (at_builtin; refine wpList_append_own _ rfl _ _ 42 rfl w2.heap.size 57 i0 (.agg #[.int .i64 0, .int .u64 0]) 2 16 Tryz.underlying42 hi hz0 hz1 hz2 rfl (by decide) _ _ _ rfl (hGd.own.alloc _) ⟨_, 0, none⟩ 1 1 [_, _] rfl rfl (cell_two_new _ _ _ _) (two_one x y) (by unfold maxLen; omega) (by omega) (by simp; omega) ?_; intro v' w' hown hgrow hnil; have hg' := hGd.push (x, y) _ hown hgrow; clear hown hgrow hnil)
          go_round
          case rel => exact ⟨i + 1, j, O ++ [(x, y)], i * 2 + 2, j * 2, ka - 1, kb, by omega, by omega, by rw [← HE.out.1], by rw [HPq.out.2], by have := HE.out.1; omega, by rw [HPq.out.2]; exact hkb, fun _ => by omega, fun _ => rfl, hg', hMn⟩
          case measure => simp [slen]; omega
        · obtain rfl : ka = 1 := by omega
          obtain rfl : p = 1 := by omega
          go_wp2_with (at_builtin; refine wpList_append_own _ rfl _ _ 42 rfl w2.heap.size 57 i0 (.agg #[.int .i64 0, .int .u64 0]) 2 16 Tryz.underlying42 hi hz0 hz1 hz2 rfl (by decide) _ _ _ rfl (hGd.own.alloc _) ⟨_, 0, none⟩ 1 1 [_, _] rfl rfl (cell_two_new _ _ _ _) (two_one x y) (by unfold maxLen; omega) (by omega) (by simp; omega) ?_; intro v' w' hown hgrow hnil; have hg' := hGd.push (x, y) _ hown hgrow; clear hown hgrow hnil)
          go_round
          case rel => exact ⟨i + 1, j, O ++ [(x, y)], i * 2, j * 2, 0, kb, by omega, by omega, by rw [← HE.out.1], by rw [HPq.out.2], by have := HE.out.1; omega, by rw [HPq.out.2]; exact hkb, fun k => by have := HE.out.1; omega, fun _ => rfl, hg', hMn⟩
          case measure => simp [slen]
      · have hMn : Hid _ := HRt.out hle
        have d1 : decide (x ≤ z) = false := decide_eq_false hle
        clear HL HRt
        go_wp2_with fail
        go_region
        have hGd := hG.out.drew
        rcases Nat.lt_or_ge 1 kb with kc | kc
        · have kc1 : ¬ kb - 1 = 0 := by omega
          go_wp2_with (at_builtin; refine wpList_append_own _ rfl _ _ 42 rfl w2.heap.size 57 i0 (.agg #[.int .i64 0, .int .u64 0]) 2 16 Tryz.underlying42 hi hz0 hz1 hz2 rfl (by decide) _ _ _ rfl (hGd.own.alloc _) ⟨_, 0, none⟩ 1 1 [_, _] rfl rfl (cell_two_new _ _ _ _) (two_one z t) (by unfold maxLen; omega) (by omega) (by simp; omega) ?_; intro v' w' hown hgrow hnil; have hg' := hGd.push (z, t) _ hown hgrow; clear hown hgrow hnil)
          go_round
          case rel => exact ⟨i, j + 1, O ++ [(z, t)], i * 2, j * 2 + 2, ka, kb - 1, by omega, by omega, by rw [HPq.out.1], by rw [← HE.out.2], by rw [HPq.out.1]; exact hka, by have := HE.out.2; omega, fun _ => rfl, fun _ => by omega, hg', hMn⟩
          case measure => simp [slen]; omega
        · obtain rfl : kb = 1 := by omega
          obtain rfl : q = 1 := by omega
          go_wp2_with (at_builtin; refine wpList_append_own _ rfl _ _ 42 rfl w2.heap.size 57 i0 (.agg #[.int .i64 0, .int .u64 0]) 2 16 Tryz.underlying42 hi hz0 hz1 hz2 rfl (by decide) _ _ _ rfl (hGd.own.alloc _) ⟨_, 0, none⟩ 1 1 [_, _] rfl rfl (cell_two_new _ _ _ _) (two_one z t) (by unfold maxLen; omega) (by omega) (by simp; omega) ?_; intro v' w' hown hgrow hnil; have hg' := hGd.push (z, t) _ hown hgrow; clear hown hgrow hnil)
          go_round
          case rel => exact ⟨i, j + 1, O ++ [(z, t)], i * 2, j * 2, ka, 0, by omega, by omega, by rw [HPq.out.1], by rw [← HE.out.2], by rw [HPq.out.1]; exact hka, by have := HE.out.2; omega, fun _ => rfl, fun k => by have := HE.out.2; omega, hg', hMn⟩
          case measure => simp [slen]
    · have hdone : Hid (S1.drop i = [] ∨ S2.drop j = []) := by
        by_cases k : i < h
        · right; exact List.drop_eq_nil_of_le (by omega)
        · left; exact List.drop_eq_nil_of_le (by omega)
      have HFin : Hid _ := hM.out.fin HS.out.1 HS.out.2 hdone.out
      have hbw : Below w2.heap.size w2 wr := hG.out.below
      have hsz : w2.heap.size ≤ wr.heap.size := hG.out.size
      have hol := hM.out.len
      have HC1 : Hid (∀ j' u, (fl (S1.drop i))[j']? = some u → wr.cell? ((⟨g1, x1, none⟩ : Addr).add j') = some u) := fun j' u hu => by
        by_cases k : i < h
        · obtain rfl := hx1 k
          have := ((HR1.out.below hbw (fun k => HR1.out.lt k)).drop i).cells j' u hu
          rw [Nat.zero_add] at this
          exact this
        · rw [List.drop_eq_nil_of_le (by omega)] at hu; cases hu
      have HC2 : Hid (∀ W, Below w2.heap.size w2 W → ∀ j' u, (fl (S2.drop j))[j']? = some u → W.cell? ((⟨g2, x2, none⟩ : Addr).add j') = some u) := fun W hW j' u hu => by
        by_cases k : j < m
        · obtain rfl := hx2 k
          have := ((HR2.out.below hW (fun k => HR2.out.lt k)).drop j).cells j' u hu
          rw [Nat.zero_add] at this
          exact this
        · rw [List.drop_eq_nil_of_le (by omega)] at hu; cases hu
      have l1 : (S1.drop i).length = h - i := by rw [List.length_drop, hn1]
      have l2 : (S2.drop j).length = m - j := by rw [List.length_drop, hn2]
      have f1 : (fl (S1.drop i)).length = (h - i) * 2 := by rw [fl_length, l1]
      have f2 : (fl (S2.drop j)).length = (m - j) * 2 := by rw [fl_length, l2]
      have F1 : Hid _ := And.intro f1 l1
      have F2 : Hid _ := And.intro f2 l2
      obtain ⟨p, hp⟩ : ∃ p, h - i = p := ⟨_, rfl⟩
      obtain ⟨q, hq⟩ : ∃ q, m - j = q := ⟨_, rfl⟩
      have bp : p ≤ 4194304 := by omega
      have bq : q ≤ 4194304 := by omega
      have bo : O.length ≤ 8388608 := by omega
      have dc : ¬ ((0 : Int) < (p : Int) ∧ (0 : Int) < (q : Int)) := by omega
      rw [hp] at F1
      rw [hq] at F2
      rw [hp, hq]
      clear f1 f2 l1 l2 hp hq hx1 hx2 hol hlt hka hkb
      rcases Nat.eq_zero_or_pos p with p0 | p0
      · subst p0
        go_wp2_with (at_builtin; first
          | (refine wpList_append_own _ rfl _ _ 42 rfl w2.heap.size 57 i0 (.agg #[.int .i64 0, .int .u64 0]) 2 16 Tryz.underlying42 hi hz0 hz1 hz2 rfl (by decide) _ _ _ rfl hG.out.own ⟨g1, x1, none⟩ 0 _ (fl (S1.drop i)) rfl F1.out.1 HC1.out (fl_one _) (by unfold maxLen; omega) (by omega) hsz ?_; intro v' w' hown hgrow hnil; have hg' := hG.out.grow (ys := S1.drop i) hbw hsz (by rw [F1.out.2]; exact hown) hgrow; clear hown hgrow hnil)
          | (refine wpList_append_own _ rfl _ _ 42 rfl w2.heap.size 57 i0 (.agg #[.int .i64 0, .int .u64 0]) 2 16 Tryz.underlying42 hi hz0 hz1 hz2 rfl (by decide) _ _ _ rfl hg'.own ⟨g2, x2, none⟩ q _ (fl (S2.drop j)) rfl F2.out.1 (HC2.out _ hg'.below) (fl_one _) (by unfold maxLen; rw [List.length_append, F1.out.2]; omega) (by rw [List.length_append, F1.out.2]; omega) hg'.size ?_; intro v'' w'' hown hgrow hnil; have hg'' := hg'.grow (ys := S2.drop j) hg'.below hg'.size (by rw [F2.out.2]; exact hown) hgrow; clear hown hgrow hnil))
        go_ret
        exact ⟨v'', _, rfl, HFin.out.1, HFin.out.2.trans HP.out, hg''.rebase HB.out⟩
      · obtain rfl : q = 0 := by omega
        have p0' : (0 : Int) < (p : Int) := by omega
        go_wp2_with (at_builtin; first
          | (refine wpList_append_own _ rfl _ _ 42 rfl w2.heap.size 57 i0 (.agg #[.int .i64 0, .int .u64 0]) 2 16 Tryz.underlying42 hi hz0 hz1 hz2 rfl (by decide) _ _ _ rfl hG.out.own ⟨g1, x1, none⟩ p _ (fl (S1.drop i)) rfl F1.out.1 HC1.out (fl_one _) (by unfold maxLen; omega) (by omega) hsz ?_; intro v' w' hown hgrow hnil; have hg' := hG.out.grow (ys := S1.drop i) hbw hsz (by rw [F1.out.2]; exact hown) hgrow; clear hown hgrow hnil)
          | (refine wpList_append_own _ rfl _ _ 42 rfl w2.heap.size 57 i0 (.agg #[.int .i64 0, .int .u64 0]) 2 16 Tryz.underlying42 hi hz0 hz1 hz2 rfl (by decide) _ _ _ rfl hg'.own ⟨g2, x2, none⟩ 0 _ (fl (S2.drop j)) rfl F2.out.1 (HC2.out _ hg'.below) (fl_one _) (by unfold maxLen; rw [List.length_append, F1.out.2]; omega) (by rw [List.length_append, F1.out.2]; omega) hg'.size ?_; intro v'' w'' hown hgrow hnil; have hg'' := hg'.grow (ys := S2.drop j) hg'.below hg'.size (by rw [F2.out.2]; exact hown) hgrow; clear hown hgrow hnil))
        go_ret
        exact ⟨v'', _, rfl, HFin.out.1, HFin.out.2.trans HP.out, hg''.rebase HB.out⟩
/-- sorted, whatever it is handed. -/
theorem sorted_any : ∀ (n : Nat) (L : List Cn) (b o cap : Nat) (w : World), L.length ≤ n → L.length ≤ 4194304 → L.length ≤ cap → RowC w b o L → Calls Tryz.prog 82 #[.slice (some ⟨b, o, none⟩) L.length cap] w fun e w' => Sd w L e w'
  | 0, L, b, o, cap, w, h, _, _, hR => sorted_short b o cap L (by omega) w hR
  | n + 1, L, b, o, cap, w, h, hl, hc, hR => by
    by_cases c : L.length < 2
    · exact sorted_short b o cap L c w hR
    · exact sorted_long b o cap L (by omega) hl hc (fun A b o cap W hA hcA hRA => sorted_any n A b o cap W (by omega) (by omega) hcA hRA) w hR
end Go.Proofs.YtckdkcnnfjbdmaaGreat
/- SORTED, the law's own, of whole numbers. Own work of the verifier. -/
namespace Go.Proofs.YtckdkcnnfjbdmaaGreat
open Go.RowKit

/-- A row of numbers of 64 bits. -/
def RowI (W : World) (b o : Nat) (L : List Int) : Prop := ∀ i (h : i < L.length), W.cell? ⟨b, o + i, none⟩ = some (.int .i64 L[i])
theorem RowI.lt {W : World} {b o : Nat} {L : List Int} (h : RowI W b o L) (hL : L ≠ []) : b < W.heap.size := lt_of_cell (h 0 (List.length_pos_iff.2 hL))
theorem RowI.below {W W1 : World} {b o : Nat} {L : List Int} {B : Nat} (h : RowI W b o L) (hb : Below B W W1) (hB : L ≠ [] → b < B) : RowI W1 b o L := fun i hi => by
  have hne : L ≠ [] := fun e => by rw [e] at hi; simp at hi
  rw [hb.cell (p := ⟨b, o + i, none⟩) (hB hne)]
  exact h i hi
def SrtI (L : List Int) : Prop := L.Pairwise (· ≤ ·)
def fli (L : List Int) : List Value := L.map (Value.int .i64)
theorem fl_length_i (L : List Int) : (fli L).length = L.length * 1 := by unfold fli; rw [List.length_map, Nat.mul_one]
theorem fl_append_i (A B : List Int) : fli (A ++ B) = fli A ++ fli B := List.map_append ..
theorem fl_one_i (L : List Int) : ∀ u ∈ fli L, u.oneCell' = true := fun u hu => by
  obtain ⟨x, _, rfl⟩ := List.mem_map.1 hu
  rfl
theorem RowI.cells {w : World} {b o : Nat} {L : List Int} (h : RowI w b o L) (j : Nat) (u : Value) (hu : (fli L)[j]? = some u) : w.cell? ((⟨b, o, none⟩ : Addr).add j) = some u := by
  unfold fli at hu
  rw [List.getElem?_map] at hu
  rcases Nat.lt_or_ge j L.length with c | c
  · rw [List.getElem?_eq_getElem c] at hu
    rw [Addr.add_lit, h j c]
    exact hu
  · rw [List.getElem?_eq_none c] at hu; cases hu
structure GI (B : Nat) (W0 : World) (v : Value) (xs : List Int) (w : World) : Prop where
  own : w.ownsRow B 2 1 v xs.length (fli xs)
  below : Below B W0 w
  size : B ≤ w.heap.size
theorem infoC_i : (Tryz.prog.info? 2).map (fun i => (i.zero, i.size, i.bytes)) = some (some (.int .i64 0), 1, 8) := by kernel_rfl
def SI (w : World) (v : Value) (L : List Int) : Prop := ∃ ao b o cap, v = .slice ao L.length cap ∧ (L ≠ [] → ao = some ⟨b, o, none⟩) ∧ RowI w b o L
theorem GI.sc {B : Nat} {W0 w : World} {v : Value} {xs : List Int} (h : GI B W0 v xs w) : SI w v xs := by
  obtain ⟨hl, h2⟩ := h.own
  rcases h2 with ⟨rfl, hn⟩ | ⟨g, cap, cur, rfl, hg, hh, hc, hm, hs, ht⟩
  · have : xs = [] := List.length_eq_zero_iff.1 hn
    subst this
    exact ⟨none, 0, 0, 0, rfl, fun k => absurd rfl k, fun i hi => by simp at hi⟩
  · refine ⟨some ⟨g, 0, none⟩, g, 0, cap, rfl, fun _ => rfl, fun i hi => ?_⟩
    have g1 : (fli xs)[i]? = some (.int .i64 xs[i]) := by unfold fli; rw [List.getElem?_map, List.getElem?_eq_getElem hi]; rfl
    rw [← ht] at g1
    rw [List.getElem?_take] at g1
    unfold World.cell?
    rw [hh]
    split at g1
    · simpa using g1
    · cases g1
/-- What sorted tells. -/
def SdI (W : World) (L : List Int) (e : Ending) (w' : World) : Prop := ∃ v' S, e = .returned v' ∧ SrtI S ∧ S.Perm L ∧ GI W.heap.size W v' S w'
theorem own_nil_i (w : World) (B : Nat) : w.ownsRow B 2 1 (.slice none 0 0) 0 [] := ⟨rfl, Or.inl ⟨rfl, rfl⟩⟩
theorem srt_short_i {L : List Int} (h : L.length < 2) : SrtI L := by
  match L, h with
  | [], _ => exact List.Pairwise.nil
  | [c], _ => exact List.pairwise_singleton _ _
theorem gc_of_i {w w' : World} {v' : Value} {L : List Int} (hown : w'.ownsRow w.heap.size 2 1 v' (0 + L.length) ([] ++ fli L)) (hg : w.grownBy w' none) : GI w.heap.size w v' L w' := by
  rw [Nat.zero_add, List.nil_append] at hown
  exact ⟨hown, (Below.refl w.heap.size w).grown hg (Nat.le_refl _) (fun k e => by cases e), hg.size⟩
theorem RowI.take {w : World} {b o : Nat} {L : List Int} (h : RowI w b o L) (k : Nat) : RowI w b o (L.take k) := fun i hi => by
  rw [List.length_take] at hi
  rw [List.getElem_take]
  exact h i (by omega)
theorem RowI.drop {w : World} {b o : Nat} {L : List Int} (h : RowI w b o L) (k : Nat) : RowI w b (o + k) (L.drop k) := fun i hi => by
  rw [List.length_drop] at hi
  rw [List.getElem_drop]
  have := h (k + i) (by omega)
  rw [show o + (k + i) = o + k + i by omega] at this
  exact this
theorem sd_open_i {W w' : World} {A : List Int} {e : Ending} {m : Nat} (h : SdI W A e w') (hm : A.length = m) (h1 : 1 ≤ m) : ∃ g cap S, e = .returned (.slice (some ⟨g, 0, none⟩) m cap) ∧ SrtI S ∧ S.Perm A ∧ RowI w' g 0 S ∧ Below W.heap.size W w' ∧ S.length = m ∧ m ≤ cap := by
  obtain ⟨v', S, rfl, hs, hp, hg⟩ := h
  have hl : S.length = m := by rw [hp.length_eq, hm]
  obtain ⟨ao, b, o, cap, rfl, ha, hr⟩ := hg.sc
  rcases hg.own.2 with ⟨k1, k2⟩ | ⟨g, cap', cur, hv, _⟩
  · omega
  · rename_i hrest
    have hcp := hrest.2.2.1
    cases hv
    have hne : S ≠ [] := fun e => by rw [e] at hl; simp at hl; omega
    have := ha hne
    cases this
    rw [hl]
    exact ⟨_, _, S, rfl, hs, hp, hr, hg.below, hl, by omega⟩
/-- The length of a slice. -/
def slen_i : Value → Nat
  | .slice _ n _ => n
  | _ => 0
/-- What the merging of two rising lists keeps. -/
structure MII (A B : List Int) (i j : Nat) (O : List Int) : Prop where
  srt : SrtI O
  la : ∀ c ∈ O, ∀ d ∈ A.drop i, c ≤ d
  lb : ∀ c ∈ O, ∀ d ∈ B.drop j, c ≤ d
  perm : (O ++ (A.drop i ++ B.drop j)).Perm (A ++ B)
  len : O.length = i + j
theorem mi_start_i (A B : List Int) : MII A B 0 0 [] := ⟨List.Pairwise.nil, (fun c hc => by cases hc), (fun c hc => by cases hc), by simp, rfl⟩
theorem srt_snoc_i {O : List Int} {x : Int} (h : SrtI O) (hx : ∀ c ∈ O, c ≤ x) : SrtI (O ++ [x]) := List.pairwise_append.2 ⟨h, List.pairwise_singleton _ _, fun a ha b hb => by rw [List.mem_singleton.1 hb]; exact hx a ha⟩
theorem srt_drop_le_i {A : List Int} (h : SrtI A) {i : Nat} (hi : i < A.length) : ∀ d ∈ A.drop i, A[i] ≤ d := by
  rw [List.drop_eq_getElem_cons hi]
  intro d hd
  rcases List.mem_cons.1 hd with rfl | hd
  · exact Int.le_refl _
  · have hp : SrtI (A.drop i) := List.Pairwise.sublist (List.drop_sublist _ _) h
    rw [List.drop_eq_getElem_cons hi] at hp
    exact (List.pairwise_cons.1 hp).1 d hd
theorem MII.left {A B O : List Int} {i j : Nat} (h : MII A B i j O) (hA : SrtI A) (hB : SrtI B) (hi : i < A.length) (hj : j < B.length) (hle : A[i] ≤ B[j]) : MII A B (i + 1) j (O ++ [A[i]]) := by
  have hm : A[i] ∈ A.drop i := by rw [List.drop_eq_getElem_cons hi]; exact List.mem_cons_self
  refine ⟨srt_snoc_i h.srt (fun c hc => h.la c hc _ hm), ?_, ?_, ?_, by rw [List.length_append, h.len, List.length_singleton]; omega⟩
  · intro c hc d hd
    have hd' : d ∈ A.drop i := by rw [List.drop_eq_getElem_cons hi]; exact List.mem_cons_of_mem _ hd
    rcases List.mem_append.1 hc with k | k
    · exact h.la c k d hd'
    · rw [List.mem_singleton.1 k]; exact srt_drop_le_i hA hi d hd'
  · intro c hc d hd
    rcases List.mem_append.1 hc with k | k
    · exact h.lb c k d hd
    · rw [List.mem_singleton.1 k]
      have := srt_drop_le_i hB hj d hd
      omega
  · have e : O ++ [A[i]] ++ (A.drop (i + 1) ++ B.drop j) = O ++ (A.drop i ++ B.drop j) := by rw [List.drop_eq_getElem_cons hi, List.append_assoc]; rfl
    rw [e]
    exact h.perm
theorem MII.right {A B O : List Int} {i j : Nat} (h : MII A B i j O) (hA : SrtI A) (hB : SrtI B) (hi : i < A.length) (hj : j < B.length) (hle : ¬ A[i] ≤ B[j]) : MII A B i (j + 1) (O ++ [B[j]]) := by
  have hm : B[j] ∈ B.drop j := by rw [List.drop_eq_getElem_cons hj]; exact List.mem_cons_self
  refine ⟨srt_snoc_i h.srt (fun c hc => h.lb c hc _ hm), ?_, ?_, ?_, by rw [List.length_append, h.len, List.length_singleton]; omega⟩
  · intro c hc d hd
    rcases List.mem_append.1 hc with k | k
    · exact h.la c k d hd
    · rw [List.mem_singleton.1 k]
      have := srt_drop_le_i hA hi d hd
      omega
  · intro c hc d hd
    have hd' : d ∈ B.drop j := by rw [List.drop_eq_getElem_cons hj]; exact List.mem_cons_of_mem _ hd
    rcases List.mem_append.1 hc with k | k
    · exact h.lb c k d hd'
    · rw [List.mem_singleton.1 k]; exact srt_drop_le_i hB hj d hd'
  · refine List.Perm.trans ?_ h.perm
    rw [List.drop_eq_getElem_cons hj, List.append_assoc]
    refine List.Perm.append_left _ ?_
    rw [List.singleton_append]
    exact List.perm_middle.symm
/-- At the end. -/
theorem MII.fin {A B O : List Int} {i j : Nat} (h : MII A B i j O) (hA : SrtI A) (hB : SrtI B) (he : A.drop i = [] ∨ B.drop j = []) : SrtI (O ++ A.drop i ++ B.drop j) ∧ (O ++ A.drop i ++ B.drop j).Perm (A ++ B) := by
  refine ⟨?_, by rw [List.append_assoc]; exact h.perm⟩
  have a1 : SrtI (A.drop i) := List.Pairwise.sublist (List.drop_sublist _ _) hA
  have b1 : SrtI (B.drop j) := List.Pairwise.sublist (List.drop_sublist _ _) hB
  rcases he with e | e
  · rw [e, List.append_nil]
    exact List.pairwise_append.2 ⟨h.srt, b1, h.lb⟩
  · rw [e, List.append_nil]
    exact List.pairwise_append.2 ⟨h.srt, a1, h.la⟩
theorem gc_new_i (w : World) : GI w.heap.size w (.slice (some ⟨w.heap.size, 0, none⟩) 0 0) [] (w.alloc (.cells #[] 2)) := by
  refine ⟨⟨rfl, .inr ⟨w.heap.size, 0, #[], rfl, Nat.le_refl _, ?_, Nat.le_refl _, by unfold maxLen; omega, rfl, rfl⟩⟩, (Below.refl _ _).alloc (Nat.le_refl _) _, by simp⟩
  show (w.heap.push _)[w.heap.size]? = _
  simp
theorem cell_one_new (w : World) (x : Value) (t : TypeId) : ∀ j u, [x][j]? = some u → (w.alloc (.cells #[x] t)).cell? ((⟨w.heap.size, 0, none⟩ : Addr).add j) = some u := by
  intro j u hu
  rw [Addr.add_lit]
  unfold World.cell?
  have hh : (w.alloc (.cells #[x] t)).heap[w.heap.size]? = some (.cells #[x] t) := by
    show (w.heap.push _)[w.heap.size]? = _
    simp
  rw [hh]
  match j, hu with
  | 0, hu => simpa using hu
  | j + 1, hu => simp at hu
theorem one_one (x : Int) : ∀ u ∈ [Value.int .i64 x], u.oneCell' = true := by
  intro u hu
  simp at hu
  rw [hu]
  rfl
theorem GI.drew {B : Nat} {W0 w : World} {v : Value} {xs : List Int} (h : GI B W0 v xs w) : GI B W0 v xs w.drew := ⟨h.own, h.below.drew, h.size⟩
theorem GI.grow {B : Nat} {W0 w w1 w' : World} {v v' : Value} {xs ys : List Int} (h : GI B W0 v xs w) (hb : Below B W0 w1) (hs : B ≤ w1.heap.size) (hown : w'.ownsRow B 2 1 v' (xs.length + ys.length) (fli xs ++ fli ys)) (hg : w1.grownBy w' v.ownBlock) : GI B W0 v' (xs ++ ys) w' := by
  refine ⟨by rw [List.length_append, fl_append_i]; exact hown, ?_, by have := hg.size; omega⟩
  refine hb.grown hg hs (fun k e => ?_)
  rcases h.own.2 with ⟨rfl, _⟩ | ⟨g, cap, cur, rfl, hB, _⟩
  · cases e
  · cases e; exact hB
theorem GI.push {B : Nat} {W0 w w' : World} {v v' : Value} {xs : List Int} (h : GI B W0 v xs w) (x : Int) (ob : Obj) (hown : w'.ownsRow B 2 1 v' (xs.length + 1) (fli xs ++ [.int .i64 x])) (hg : (w.alloc ob).grownBy w' v.ownBlock) : GI B W0 v' (xs ++ [x]) w' :=
  h.grow (ys := [x]) (h.below.alloc h.size _) (by simp; have := h.size; omega) hown hg
theorem GI.rebase {W0 W2 w : World} {v : Value} {xs : List Int} (h : GI W2.heap.size W2 v xs w) (hb : Below W0.heap.size W0 W2) : GI W0.heap.size W0 v xs w := by
  have hs := hb.size
  refine ⟨⟨h.own.1, ?_⟩, hb.trans (h.below.mono hs), by have := h.size; omega⟩
  rcases h.own.2 with k | ⟨g, cap, cur, hv, hB, hrest⟩
  · exact Or.inl k
  · exact Or.inr ⟨g, cap, cur, hv, by omega, hrest⟩
end Go.Proofs.YtckdkcnnfjbdmaaGreat
/- Merge, the document's. Own work of the verifier. -/
namespace Go.Proofs.YtckdkcnnfjbdmaaGreat
open Go.RowKit

/-- What Merge tells. -/
def Md (W : World) (L : List Cn) (e : Ending) (w' : World) : Prop := ∃ v' O, e = .returned v' ∧ IsMerge O L ∧ GC W.heap.size W v' O w'
/-- sorted of a row of one's own. -/
theorem sorted_gc {B : Nat} {W0 w : World} {v : Value} {L : List Cn} (h : GC B W0 v L w) (hl : L.length ≤ 4194304) : Calls Tryz.prog 82 #[v] w fun e w' => Sd w L e w' := by
  have hsc := h.sc
  rcases h.own.2 with ⟨rfl, hn⟩ | ⟨g, cap, cur, rfl, _, _, hc, _⟩
  · have : L = [] := List.length_eq_zero_iff.1 hn
    subst this
    exact sorted_nil w
  · obtain ⟨ao, b, o, cap', hv, ha, hr⟩ := hsc
    cases hv
    by_cases hne : L = []
    · subst hne
      exact sorted_any 0 [] g 0 cap w (by simp) (by simp) hc (fun i hi => by simp at hi)
    · have := ha hne
      cases this
      exact sorted_any L.length L _ _ cap w (Nat.le_refl _) hl hc hr
theorem sd_gen {W w' : World} {L : List Cn} {e : Ending} (h : Sd W L e w') : ∃ ao b o cap S, e = .returned (.slice ao S.length cap) ∧ (S ≠ [] → ao = some ⟨b, o, none⟩) ∧ Srt S ∧ S.Perm L ∧ RowC w' b o S ∧ Below W.heap.size W w' := by
  obtain ⟨v', S, rfl, hs, hp, hg⟩ := h
  obtain ⟨ao, b, o, cap, rfl, ha, hr⟩ := hg.sc
  exact ⟨ao, b, o, cap, S, rfl, ha, hs, hp, hr, hg.below⟩
/-- What lies in memory while a group is summed. -/
structure MC (w3 : World) (gc : Nat) (O : List Cn) (b3 o3 : Nat) (S : List Cn) (x : Int) (N : Nat) (vO : Value) (W : World) : Prop where
  c0 : W.cell? ⟨gc, 0, none⟩ = some (.int .i64 x)
  c1 : W.cell? ⟨gc, 1, none⟩ = some (.int .u64 (N : Int))
  fr : ∀ o, W.frozen? ⟨gc, o, none⟩ = false
  g : GC w3.heap.size w3 vO O W
  r : RowC W b3 o3 S
  ne : ∀ g cap n, vO = .slice (some ⟨g, 0, none⟩) n cap → g ≠ gc
  nb : S ≠ [] → b3 ≠ gc
  le : w3.heap.size ≤ gc
theorem GC.lt {B : Nat} {W0 w : World} {vO : Value} {O : List Cn} (h : GC B W0 vO O w) {g n cap : Nat} (hv : vO = .slice (some ⟨g, 0, none⟩) n cap) : g < w.heap.size := by
  rcases h.own.2 with ⟨k, _⟩ | ⟨g', cap', cur, hv', _, hh, _⟩
  · rw [k] at hv; cases hv
  · rw [hv'] at hv
    cases hv
    rcases Nat.lt_or_ge g w.heap.size with c | c
    · exact c
    · rw [Array.getElem?_eq_none c] at hh; cases hh
theorem GC.alloc {B : Nat} {W0 w : World} {vO : Value} {O : List Cn} (h : GC B W0 vO O w) (ob : Obj) : GC B W0 vO O (w.alloc ob) := ⟨h.own.alloc _, h.below.alloc h.size _, by have := h.size; simp; omega⟩
theorem gc_drewN {B : Nat} {W0 w : World} {v : Value} {xs : List Cn} (h : GC B W0 v xs w) (n : Nat) : GC B W0 v xs (w.drewN n) := by
  induction n with
  | zero => exact h
  | succ n ih => exact ih.drew
theorem mc_new {w3 w : World} {vO : Value} {O : List Cn} {b3 o3 : Nat} {S : List Cn} (hG : GC w3.heap.size w3 vO O w) (hR : RowC w b3 o3 S) (x : Int) : MC w3 w.heap.size O b3 o3 S x 0 vO (w.alloc (.cells #[.int .i64 x, .int .u64 0] 57)) := by
  have hh : (w.alloc (.cells #[.int .i64 x, .int .u64 0] 57)).heap[w.heap.size]? = some (.cells #[.int .i64 x, .int .u64 0] 57) := by
    show (w.heap.push _)[w.heap.size]? = _
    simp
  refine ⟨by simp [go_sem], by simp [go_sem], fun o => by unfold World.frozen?; rw [hh]; simp, hG.alloc _, hR.below ((Below.refl w.heap.size w).alloc (Nat.le_refl _) _) (fun k => hR.lt k), fun g cap n hv => ?_, fun k => ?_, hG.size⟩
  · have := hG.lt hv; omega
  · have := hR.lt k; omega
theorem MC.drew {w3 : World} {gc : Nat} {O : List Cn} {b3 o3 : Nat} {S : List Cn} {x : Int} {N : Nat} {vO : Value} {W : World} (h : MC w3 gc O b3 o3 S x N vO W) : MC w3 gc O b3 o3 S x N vO W.drew := ⟨h.c0, h.c1, h.fr, h.g.drew, h.r, h.ne, h.nb, h.le⟩
theorem MC.store {w3 : World} {gc : Nat} {O : List Cn} {b3 o3 : Nat} {S : List Cn} {x : Int} {N : Nat} {vO : Value} {W : World} (h : MC w3 gc O b3 o3 S x N vO W) (M : Nat) : MC w3 gc O b3 o3 S x M vO (W.setCell ⟨gc, 1, none⟩ (.int .u64 (M : Int))) := by
  refine ⟨?_, World.cell?_setCell_same _ _ _ h.c1, fun o => ?_, ⟨⟨h.g.own.1, ?_⟩, h.g.below.setCell h.le _, by rw [World.size_setCell]; exact h.g.size⟩, fun i hi => ?_, h.ne, h.nb, h.le⟩
  · rw [World.cell?_setCell_other _ _ _ _ (by intro e; cases e)]; exact h.c0
  · rw [World.frozen?_setCell]; exact h.fr o
  · rcases h.g.own.2 with k | ⟨g, cap, cur, hv, hB, hh, hrest⟩
    · exact Or.inl k
    · refine Or.inr ⟨g, cap, cur, hv, hB, ?_, hrest⟩
      rw [Below.heap_setCell _ _ _ _ (h.ne g cap _ hv)]
      exact hh
  · have hne : b3 ≠ gc := h.nb (fun e => by rw [e] at hi; simp at hi)
    rw [World.cell?_setCell_other _ _ _ _ (fun e => hne (congrArg Addr.block e).symm), World.cell?_setCell_other _ _ _ _ (fun e => hne (congrArg Addr.block e).symm)]
    exact h.r i hi
theorem key_cut {S : List Cn} {i : Nat} {x : Int} (hc : Cut S i) (hi : i < S.length) (hx : x = S[i].1) : key (S.take i) x % 18446744073709551616 = 0 := by
  rw [key_none fun c hcm => ?_]
  have := hc c hcm (S[i]) (by rw [List.drop_eq_getElem_cons hi]; exact List.mem_cons_self)
  omega
set_option maxRecDepth 10000 in
set_option maxHeartbeats 4000000 in
theorem merge_some (a1 : Addr) (A : List Cn) (ca : Nat) (a2 : Addr) (C : List Cn) (cb : Nat) (hlA : A.length ≤ 1048576) (hlC : C.length ≤ 1048576) (w : World) (hA : ∀ j u, (fl A)[j]? = some u → w.cell? (a1.add j) = some u) (hC : ∀ W, Below w.heap.size w W → ∀ j u, (fl C)[j]? = some u → W.cell? (a2.add j) = some u) (hW : Wc (A ++ C)) :
    Calls Tryz.prog 46 #[.slice (some a1) A.length ca, .slice (some a2) C.length cb] w fun e w' => Md w (A ++ C) e w' := by
  obtain ⟨i0, hi, hz0, hz1, hz2⟩ := info_parts infoC
  have HA : Hid _ := hA
  have HC : Hid _ := hC
  clear hA hC
  go_enter Tryz.func46, Tryz.ntmps46
  go_wp2_with (first
    | (at_builtin; refine wpList_append_own _ rfl _ _ 42 rfl w.heap.size 57 i0 (.agg #[.int .i64 0, .int .u64 0]) 2 16 Tryz.underlying42 hi hz0 hz1 hz2 rfl (by decide) _ _ _ rfl (own_nil _ _) a1 A.length ca (fl A) rfl (fl_length A) HA.out (fl_one A) (by unfold maxLen; omega) (by omega) (by omega) ?_; intro v' w' hown hgrow hnil; have hg' := gc_of hown hgrow; clear hown hgrow hnil)
    | (at_builtin; refine wpList_append_own _ rfl _ _ 42 rfl w.heap.size 57 i0 (.agg #[.int .i64 0, .int .u64 0]) 2 16 Tryz.underlying42 hi hz0 hz1 hz2 rfl (by decide) _ _ _ rfl hg'.own a2 C.length cb (fl C) rfl (fl_length C) (HC.out _ hg'.below) (fl_one C) (by unfold maxLen; omega) (by omega) hg'.size ?_; intro v'' w'' hown hgrow hnil; have hg'' := hg'.grow (ys := C) hg'.below hg'.size hown hgrow; clear hown hgrow hnil)
    | (go_at_call 82; refine (sorted_gc hg'' (by rw [List.length_append]; omega)).mono ?_; rintro e w3 hsd; obtain ⟨ao3, b3, o3, c3, S, rfl, hao3, hs3, hp3, hr3, hb3⟩ := sd_gen hsd))
  have HS : Hid (Srt S) := hs3
  have HP : Hid (S.Perm (A ++ C)) := hp3
  have hSl : S.length ≤ 2097152 := by rw [hp3.length_eq, List.length_append]; omega
  have HR3 : Hid (RowC w3 b3 o3 S) := hr3
  have HB3 : Hid (Below w.heap.size w w3) := bt hg''.below hb3
  have hWS : Wc S := fun c hc => hW c (hp3.mem_iff.1 hc)
  have HWS : Hid _ := hWS
  clear hs3 hp3 hr3 hb3 hsd hg' hg'' hWS
  go_loopw [6, 7] (fun v a wr => ∃ (i : Nat) (O : List Cn), i ≤ S.length ∧ a = .int .i64 (i : Int) ∧ Hid (GC w3.heap.size w3 v O wr) ∧ Hid (IsMerge O (S.take i) ∧ (∀ c ∈ O, ∀ d ∈ S.drop i, c.1 < d.1) ∧ Cut S i) ∧ O.length ≤ i) (fun _ a _ => S.length - (intOf a).toNat)
  case atStart => exact ⟨0, [], by omega, rfl, gc_new w3, ⟨isMerge_nil, (fun c hc => by cases hc), cut_zero S⟩, by simp⟩
  case round =>
    obtain ⟨i, O, hil, rfl, hG, hM, hOl⟩ := hrel
    by_cases hlt : i < S.length
    · obtain rfl := hao3 (by intro e; rw [e] at hlt; simp at hlt)
      have hlt' : (i : Int) < (S.length : Int) := by omega
      have hbw : Below w3.heap.size w3 wr := hG.out.below
      have hrw := HR3.out.below hbw (fun k => HR3.out.lt k)
      obtain ⟨q1, q2⟩ := hrw i hlt
      have HX : Hid (∃ x, x = S[i].1) := ⟨_, rfl⟩
      obtain ⟨x, hx⟩ := HX.out
      rw [← hx] at q1
      have Hx : Hid _ := hx
      clear hx HX q2
      have HRW : Hid (RowC wr b3 o3 S) := hrw
      clear hrw hbw
      have hMC : Hid (MC w3 wr.heap.size O b3 o3 S x 0 _ (wr.alloc (.cells #[.int .i64 x, .int .u64 0] 57))) := mc_new hG.out HRW.out x
      go_wp2_with fail
      generalize wr.heap.size = gc at hMC ⊢
      go_loopw [7] (fun a wr => ∃ j N : Nat, i ≤ j ∧ j ≤ S.length ∧ a = .int .i64 (j : Int) ∧ N < 18446744073709551616 ∧ Hid (MC w3 gc O b3 o3 S x N _ wr) ∧ Hid (Run S i j x ∧ N = key (S.take j) x % 18446744073709551616)) (fun a _ => S.length - (intOf a).toNat)
      case atStart => exact ⟨i, 0, Nat.le_refl _, by omega, rfl, by decide, hMC, ⟨fun t _ h1 h2 => by omega, by rw [key_cut hM.out.2.2 hlt Hx.out]⟩⟩
      case round =>
        obtain ⟨j, N, hij, hjl, rfl, hN, hK, hR⟩ := hrel
        have k0 := hK.out.c0
        have k1 := hK.out.c1
        have f1 := hK.out.fr 1
        by_cases hjt : j < S.length
        · have hjt' : (j : Int) < (S.length : Int) := by omega
          obtain ⟨r1, r2⟩ := hK.out.r j hjt
          by_cases hxe : S[j].1 = x
          · have HRn : Hid (Run S i (j + 1) x ∧ (N + S[j].2) % 18446744073709551616 = key (S.take (j + 1)) x % 18446744073709551616) := ⟨fun t ht h1 h2 => by
                by_cases e : t = j
                · subst e; exact hxe
                · exact hR.out.1 t ht h1 (by omega), by rw [key_take S hjt, if_pos hxe, hR.out.2]; omega⟩
            rw [hxe] at r1
            have hbe : (x == x) = true := by simp
            generalize S[j].2 = y at *
            clear hxe
            have hw : IntKind.u64.wrap ((N : Int) + (y : Int)) = (((N + y) % 18446744073709551616 : Nat) : Int) := by rw [IntKind.wrap_u64]; omega
            have hMl : (N + y) % 18446744073709551616 < 18446744073709551616 := Nat.mod_lt _ (by decide)
            generalize (N + y) % 18446744073709551616 = M at *
            go_wp2_with fail
            go_region
            go_wp2_with fail
            go_region_with fail
            all_goals
              go_wp2_with fail
              exact ⟨⟨j + 1, M, by omega, by omega, by go_num, hMl, (hK.out.store M).drew.drew, HRn⟩, by simp [intOf]; omega⟩
          · have hij2 : i < j := by
              rcases Nat.eq_or_lt_of_le hij with e | e
              · subst e; exact absurd Hx.out.symm hxe
              · exact e
            have hbe : (S[j].1 == x) = false := by rw [beq_eq_false_iff_ne]; exact hxe
            have HCut : Hid (Cut S j) := cut_next HS.out hij2 hjl hM.out.2.2 hR.out.1 (fun _ => hxe)
            have HMn : Hid (IsMerge (if N ≠ 0 then O ++ [(x, N)] else O) (S.take j)) := group_merge hij2 hjl hM.out.1 hM.out.2.1 hR.out.1 hR.out.2
            have HMl : Hid (∀ c ∈ (if N ≠ 0 then O ++ [(x, N)] else O), ∀ d ∈ S.drop j, c.1 < d.1) := group_less hij2 hjl hM.out.2.1 hR.out.1 HCut.out
            generalize S[j].1 = z at *
            clear hxe
            have hGd := hK.out.g.drew
            have hgs : w3.heap.size ≤ wr.heap.size := hK.out.g.size
            have hO2 : O.length ≤ 2097152 := by omega
            by_cases hN0 : N = 0
            · subst hN0
              rw [if_neg (by decide)] at HMn HMl
              go_wp2_with fail
              go_region
              go_wp2_with fail
              exact ⟨⟨j, O, hjl, rfl, hGd, ⟨HMn.out, HMl.out, HCut.out⟩, by omega⟩, by simp [intOf]; omega⟩
            · have t1 : ((N : Int) != 0) = true := by rw [bne_iff_ne]; omega
              rw [if_pos hN0] at HMn HMl
              go_wp2_with fail
              go_region
              go_wp2_with (at_builtin; refine wpList_append_own _ rfl _ _ 42 rfl w3.heap.size 57 i0 (.agg #[.int .i64 0, .int .u64 0]) 2 16 Tryz.underlying42 hi hz0 hz1 hz2 rfl (by decide) _ _ _ rfl (hGd.own.alloc _) ⟨_, 0, none⟩ 1 1 [_, _] rfl rfl (cell_two_new _ _ _ _) (two_one x N) (by unfold maxLen; omega) (by omega) (by simp; omega) ?_; intro v5 w5 hown hgrow hnil; have hg' := hGd.push (x, N) _ hown hgrow; clear hown hgrow hnil)
              go_round
              case rel => exact ⟨j, O ++ [(x, N)], hjl, rfl, hg', ⟨HMn.out, HMl.out, HCut.out⟩, by rw [List.length_append, List.length_singleton]; omega⟩
              case measure => simp [intOf]; omega
        · obtain rfl : j = S.length := by omega
          have hjt' : ¬ (S.length : Int) < (S.length : Int) := by omega
          have HCut : Hid (Cut S S.length) := cut_next HS.out hlt hjl hM.out.2.2 hR.out.1 (fun h => absurd h (Nat.lt_irrefl _))
          have HMn : Hid (IsMerge (if N ≠ 0 then O ++ [(x, N)] else O) (S.take S.length)) := group_merge hlt hjl hM.out.1 hM.out.2.1 hR.out.1 hR.out.2
          have HMl : Hid (∀ c ∈ (if N ≠ 0 then O ++ [(x, N)] else O), ∀ d ∈ S.drop S.length, c.1 < d.1) := group_less hlt hjl hM.out.2.1 hR.out.1 HCut.out
          have hgs : w3.heap.size ≤ wr.heap.size := hK.out.g.size
          have hO2 : O.length ≤ 2097152 := by omega
          by_cases hN0 : N = 0
          · subst hN0
            rw [if_neg (by decide)] at HMn HMl
            go_wp2_with fail
            go_quiet (fail)
            have hGd := gc_drewN hK.out.g nq
            go_wp2_with fail
            exact ⟨⟨S.length, O, Nat.le_refl _, rfl, hGd, ⟨HMn.out, HMl.out, HCut.out⟩, by omega⟩, by simp [intOf]; omega⟩
          · have t1 : ((N : Int) != 0) = true := by rw [bne_iff_ne]; omega
            rw [if_pos hN0] at HMn HMl
            go_wp2_with fail
            go_quiet (fail)
            have hGd := gc_drewN hK.out.g nq
            go_wp2_with (at_builtin; refine wpList_append_own _ rfl _ _ 42 rfl w3.heap.size 57 i0 (.agg #[.int .i64 0, .int .u64 0]) 2 16 Tryz.underlying42 hi hz0 hz1 hz2 rfl (by decide) _ _ _ rfl (hGd.own.alloc _) ⟨_, 0, none⟩ 1 1 [_, _] rfl rfl (cell_two_new _ _ _ _) (two_one x N) (by unfold maxLen; omega) (by omega) (by simp; omega) ?_; intro v5 w5 hown hgrow hnil; have hg' := hGd.push (x, N) _ hown hgrow; clear hown hgrow hnil)
            go_round
            case rel => exact ⟨S.length, O ++ [(x, N)], Nat.le_refl _, rfl, hg', ⟨HMn.out, HMl.out, HCut.out⟩, by rw [List.length_append, List.length_singleton]; omega⟩
            case measure => simp [intOf]; omega
    · obtain rfl : i = S.length := by omega
      have hlt' : ¬ (S.length : Int) < (S.length : Int) := by omega
      have HMn : Hid (IsMerge O (A ++ C)) := by
        have := hM.out.1
        rw [List.take_length] at this
        exact this.perm HP.out
      go_wp2_with fail
      go_ret
      exact ⟨_, O, rfl, HMn.out, hG.out.rebase HB3.out⟩
end Go.Proofs.YtckdkcnnfjbdmaaGreat
/- Merge, the document's, where a list is none. Own work of the verifier. -/
namespace Go.Proofs.YtckdkcnnfjbdmaaGreat
open Go.RowKit

theorem gc_form2 {B : Nat} {W0 w : World} {v : Value} {xs : List Cn} (h : GC B W0 v xs w) : (v = .slice none 0 0 ∧ xs = []) ∨ ∃ g cap, v = .slice (some ⟨g, 0, none⟩) xs.length cap ∧ xs.length ≤ cap := by
  rcases h.own.2 with ⟨k, k2⟩ | ⟨g, cap, cur, hv, _, _, hc, _⟩
  · exact Or.inl ⟨k, List.length_eq_zero_iff.1 k2⟩
  · exact Or.inr ⟨g, cap, hv, hc⟩
theorem gc_form {B : Nat} {W0 w : World} {v : Value} {xs : List Cn} (h : GC B W0 v xs w) : ∃ ao n cap, v = .slice ao n cap := by
  obtain ⟨ao, b, o, cap, h1, _⟩ := h.sc
  exact ⟨ao, _, cap, h1⟩
set_option maxRecDepth 10000 in
set_option maxHeartbeats 4000000 in
theorem merge_left (a2 : Addr) (C : List Cn) (cb : Nat) (hlC : C.length ≤ 1048576) (w : World) (hC : ∀ j u, (fl C)[j]? = some u → w.cell? (a2.add j) = some u) (hW : Wc ([] ++ C)) :
    Calls Tryz.prog 46 #[.slice none 0 0, .slice (some a2) C.length cb] w fun e w' => Md w ([] ++ C) e w' := by
  obtain ⟨i0, hi, hz0, hz1, hz2⟩ := info_parts infoC
  have HC : Hid _ := hC
  clear hC
  obtain ⟨A, hA0⟩ : ∃ A : List Cn, A = [] := ⟨_, rfl⟩
  have hg' : GC w.heap.size w (.slice none 0 0) A w := by rw [hA0]; exact ⟨own_nil _ _, Below.refl _ _, Nat.le_refl _⟩
  have hlA : A.length = 0 := by rw [hA0]; rfl
  rw [← hA0] at hW ⊢
  have hown0 : w.ownsRow w.heap.size 57 2 (.slice none 0 0) 0 (fl A) := by rw [hA0]; exact own_nil _ _
  clear hA0
  go_enter Tryz.func46, Tryz.ntmps46
  go_wp2_with (first
    | (at_builtin; refine wpList_append_own _ rfl _ _ 42 rfl w.heap.size 57 i0 (.agg #[.int .i64 0, .int .u64 0]) 2 16 Tryz.underlying42 hi hz0 hz1 hz2 rfl (by decide) _ _ _ rfl hown0 a2 C.length cb (fl C) rfl (fl_length C) HC.out (fl_one C) (by unfold maxLen; omega) (by omega) hg'.size ?_; intro v'' w'' hown hgrow hnil; have hg'' := hg'.grow (ys := C) hg'.below hg'.size (by rw [hlA]; exact hown) hgrow; clear hown hgrow hnil)
    | (go_at_call 82; refine (sorted_gc hg'' (by rw [List.length_append]; omega)).mono ?_; rintro e w3 hsd; obtain ⟨ao3, b3, o3, c3, S, rfl, hao3, hs3, hp3, hr3, hb3⟩ := sd_gen hsd))
  have HS : Hid (Srt S) := hs3
  have HP : Hid (S.Perm (A ++ C)) := hp3
  have hSl : S.length ≤ 2097152 := by rw [hp3.length_eq, List.length_append]; omega
  have HR3 : Hid (RowC w3 b3 o3 S) := hr3
  have HB3 : Hid (Below w.heap.size w w3) := bt hg''.below hb3
  have hWS : Wc S := fun c hc => hW c (hp3.mem_iff.1 hc)
  have HWS : Hid _ := hWS
  clear hs3 hp3 hr3 hb3 hsd hg' hg'' hWS
  go_loopw [6, 7] (fun v a wr => ∃ (i : Nat) (O : List Cn), i ≤ S.length ∧ a = .int .i64 (i : Int) ∧ Hid (GC w3.heap.size w3 v O wr) ∧ Hid (IsMerge O (S.take i) ∧ (∀ c ∈ O, ∀ d ∈ S.drop i, c.1 < d.1) ∧ Cut S i) ∧ O.length ≤ i) (fun _ a _ => S.length - (intOf a).toNat)
  case atStart => exact ⟨0, [], by omega, rfl, gc_new w3, ⟨isMerge_nil, (fun c hc => by cases hc), cut_zero S⟩, by simp⟩
  case round =>
    obtain ⟨i, O, hil, rfl, hG, hM, hOl⟩ := hrel
    by_cases hlt : i < S.length
    · obtain rfl := hao3 (by intro e; rw [e] at hlt; simp at hlt)
      have hlt' : (i : Int) < (S.length : Int) := by omega
      have hbw : Below w3.heap.size w3 wr := hG.out.below
      have hrw := HR3.out.below hbw (fun k => HR3.out.lt k)
      obtain ⟨q1, q2⟩ := hrw i hlt
      have HX : Hid (∃ x, x = S[i].1) := ⟨_, rfl⟩
      obtain ⟨x, hx⟩ := HX.out
      rw [← hx] at q1
      have Hx : Hid _ := hx
      clear hx HX q2
      have HRW : Hid (RowC wr b3 o3 S) := hrw
      clear hrw hbw
      have hMC : Hid (MC w3 wr.heap.size O b3 o3 S x 0 _ (wr.alloc (.cells #[.int .i64 x, .int .u64 0] 57))) := mc_new hG.out HRW.out x
      go_wp2_with fail
      generalize wr.heap.size = gc at hMC ⊢
      go_loopw [7] (fun a wr => ∃ j N : Nat, i ≤ j ∧ j ≤ S.length ∧ a = .int .i64 (j : Int) ∧ N < 18446744073709551616 ∧ Hid (MC w3 gc O b3 o3 S x N _ wr) ∧ Hid (Run S i j x ∧ N = key (S.take j) x % 18446744073709551616)) (fun a _ => S.length - (intOf a).toNat)
      case atStart => exact ⟨i, 0, Nat.le_refl _, by omega, rfl, by decide, hMC, ⟨fun t _ h1 h2 => by omega, by rw [key_cut hM.out.2.2 hlt Hx.out]⟩⟩
      case round =>
        obtain ⟨j, N, hij, hjl, rfl, hN, hK, hR⟩ := hrel
        have k0 := hK.out.c0
        have k1 := hK.out.c1
        have f1 := hK.out.fr 1
        by_cases hjt : j < S.length
        · have hjt' : (j : Int) < (S.length : Int) := by omega
          obtain ⟨r1, r2⟩ := hK.out.r j hjt
          by_cases hxe : S[j].1 = x
          · have HRn : Hid (Run S i (j + 1) x ∧ (N + S[j].2) % 18446744073709551616 = key (S.take (j + 1)) x % 18446744073709551616) := ⟨fun t ht h1 h2 => by
                by_cases e : t = j
                · subst e; exact hxe
                · exact hR.out.1 t ht h1 (by omega), by rw [key_take S hjt, if_pos hxe, hR.out.2]; omega⟩
            rw [hxe] at r1
            have hbe : (x == x) = true := by simp
            generalize S[j].2 = y at *
            clear hxe
            have hw : IntKind.u64.wrap ((N : Int) + (y : Int)) = (((N + y) % 18446744073709551616 : Nat) : Int) := by rw [IntKind.wrap_u64]; omega
            have hMl : (N + y) % 18446744073709551616 < 18446744073709551616 := Nat.mod_lt _ (by decide)
            generalize (N + y) % 18446744073709551616 = M at *
            go_wp2_with fail
            go_region
            go_wp2_with fail
            go_region_with fail
            all_goals
              go_wp2_with fail
              exact ⟨⟨j + 1, M, by omega, by omega, by go_num, hMl, (hK.out.store M).drew.drew, HRn⟩, by simp [intOf]; omega⟩
          · have hij2 : i < j := by
              rcases Nat.eq_or_lt_of_le hij with e | e
              · subst e; exact absurd Hx.out.symm hxe
              · exact e
            have hbe : (S[j].1 == x) = false := by rw [beq_eq_false_iff_ne]; exact hxe
            have HCut : Hid (Cut S j) := cut_next HS.out hij2 hjl hM.out.2.2 hR.out.1 (fun _ => hxe)
            have HMn : Hid (IsMerge (if N ≠ 0 then O ++ [(x, N)] else O) (S.take j)) := group_merge hij2 hjl hM.out.1 hM.out.2.1 hR.out.1 hR.out.2
            have HMl : Hid (∀ c ∈ (if N ≠ 0 then O ++ [(x, N)] else O), ∀ d ∈ S.drop j, c.1 < d.1) := group_less hij2 hjl hM.out.2.1 hR.out.1 HCut.out
            generalize S[j].1 = z at *
            clear hxe
            have hGd := hK.out.g.drew
            have hgs : w3.heap.size ≤ wr.heap.size := hK.out.g.size
            have hO2 : O.length ≤ 2097152 := by omega
            by_cases hN0 : N = 0
            · subst hN0
              rw [if_neg (by decide)] at HMn HMl
              go_wp2_with fail
              go_region
              go_wp2_with fail
              exact ⟨⟨j, O, hjl, rfl, hGd, ⟨HMn.out, HMl.out, HCut.out⟩, by omega⟩, by simp [intOf]; omega⟩
            · have t1 : ((N : Int) != 0) = true := by rw [bne_iff_ne]; omega
              rw [if_pos hN0] at HMn HMl
              go_wp2_with fail
              go_region
              go_wp2_with (at_builtin; refine wpList_append_own _ rfl _ _ 42 rfl w3.heap.size 57 i0 (.agg #[.int .i64 0, .int .u64 0]) 2 16 Tryz.underlying42 hi hz0 hz1 hz2 rfl (by decide) _ _ _ rfl (hGd.own.alloc _) ⟨_, 0, none⟩ 1 1 [_, _] rfl rfl (cell_two_new _ _ _ _) (two_one x N) (by unfold maxLen; omega) (by omega) (by simp; omega) ?_; intro v5 w5 hown hgrow hnil; have hg' := hGd.push (x, N) _ hown hgrow; clear hown hgrow hnil)
              go_round
              case rel => exact ⟨j, O ++ [(x, N)], hjl, rfl, hg', ⟨HMn.out, HMl.out, HCut.out⟩, by rw [List.length_append, List.length_singleton]; omega⟩
              case measure => simp [intOf]; omega
        · obtain rfl : j = S.length := by omega
          have hjt' : ¬ (S.length : Int) < (S.length : Int) := by omega
          have HCut : Hid (Cut S S.length) := cut_next HS.out hlt hjl hM.out.2.2 hR.out.1 (fun h => absurd h (Nat.lt_irrefl _))
          have HMn : Hid (IsMerge (if N ≠ 0 then O ++ [(x, N)] else O) (S.take S.length)) := group_merge hlt hjl hM.out.1 hM.out.2.1 hR.out.1 hR.out.2
          have HMl : Hid (∀ c ∈ (if N ≠ 0 then O ++ [(x, N)] else O), ∀ d ∈ S.drop S.length, c.1 < d.1) := group_less hlt hjl hM.out.2.1 hR.out.1 HCut.out
          have hgs : w3.heap.size ≤ wr.heap.size := hK.out.g.size
          have hO2 : O.length ≤ 2097152 := by omega
          by_cases hN0 : N = 0
          · subst hN0
            rw [if_neg (by decide)] at HMn HMl
            go_wp2_with fail
            go_quiet (fail)
            have hGd := gc_drewN hK.out.g nq
            go_wp2_with fail
            exact ⟨⟨S.length, O, Nat.le_refl _, rfl, hGd, ⟨HMn.out, HMl.out, HCut.out⟩, by omega⟩, by simp [intOf]; omega⟩
          · have t1 : ((N : Int) != 0) = true := by rw [bne_iff_ne]; omega
            rw [if_pos hN0] at HMn HMl
            go_wp2_with fail
            go_quiet (fail)
            have hGd := gc_drewN hK.out.g nq
            go_wp2_with (at_builtin; refine wpList_append_own _ rfl _ _ 42 rfl w3.heap.size 57 i0 (.agg #[.int .i64 0, .int .u64 0]) 2 16 Tryz.underlying42 hi hz0 hz1 hz2 rfl (by decide) _ _ _ rfl (hGd.own.alloc _) ⟨_, 0, none⟩ 1 1 [_, _] rfl rfl (cell_two_new _ _ _ _) (two_one x N) (by unfold maxLen; omega) (by omega) (by simp; omega) ?_; intro v5 w5 hown hgrow hnil; have hg' := hGd.push (x, N) _ hown hgrow; clear hown hgrow hnil)
            go_round
            case rel => exact ⟨S.length, O ++ [(x, N)], Nat.le_refl _, rfl, hg', ⟨HMn.out, HMl.out, HCut.out⟩, by rw [List.length_append, List.length_singleton]; omega⟩
            case measure => simp [intOf]; omega
    · obtain rfl : i = S.length := by omega
      have hlt' : ¬ (S.length : Int) < (S.length : Int) := by omega
      have HMn : Hid (IsMerge O (A ++ C)) := by
        have := hM.out.1
        rw [List.take_length] at this
        exact this.perm HP.out
      go_wp2_with fail
      go_ret
      exact ⟨_, O, rfl, HMn.out, hG.out.rebase HB3.out⟩
set_option maxRecDepth 10000 in
set_option maxHeartbeats 4000000 in
theorem merge_right (a1 : Addr) (A : List Cn) (ca : Nat) (hlA : A.length ≤ 1048576) (w : World) (hA : ∀ j u, (fl A)[j]? = some u → w.cell? (a1.add j) = some u) (hW : Wc (A ++ [])) :
    Calls Tryz.prog 46 #[.slice (some a1) A.length ca, .slice none 0 0] w fun e w' => Md w (A ++ []) e w' := by
  obtain ⟨i0, hi, hz0, hz1, hz2⟩ := info_parts infoC
  have HA : Hid _ := hA
  clear hA
  go_enter Tryz.func46, Tryz.ntmps46
  go_wp2_with (first
    | (at_builtin; refine wpList_append_own _ rfl _ _ 42 rfl w.heap.size 57 i0 (.agg #[.int .i64 0, .int .u64 0]) 2 16 Tryz.underlying42 hi hz0 hz1 hz2 rfl (by decide) _ _ _ rfl (own_nil _ _) a1 A.length ca (fl A) rfl (fl_length A) HA.out (fl_one A) (by unfold maxLen; omega) (by omega) (by omega) ?_; intro v' w' hown hgrow hnil; have hg' := gc_of hown hgrow; clear hown hgrow hnil; rcases gc_form2 hg' with ⟨rfl, hA0⟩ | ⟨gv, cv, rfl, hcv⟩)
    | (go_at_call 82; refine (sorted_gc hg' (by omega)).mono ?_; rintro e w3 hsd; obtain ⟨ao3, b3, o3, c3, S, rfl, hao3, hs3, hp3, hr3, hb3⟩ := sd_gen hsd))
  · have HS : Hid (Srt S) := hs3
    have HP : Hid (S.Perm (A ++ [])) := by rw [List.append_nil]; exact hp3
    have hSl : S.length ≤ 2097152 := by rw [hp3.length_eq]; omega
    have HR3 : Hid (RowC w3 b3 o3 S) := hr3
    have HB3 : Hid (Below w.heap.size w w3) := bt hg'.below hb3
    have hWS : Wc S := fun c hc => hW c (by rw [List.append_nil]; exact hp3.mem_iff.1 hc)
    have HWS : Hid _ := hWS
    clear hs3 hp3 hr3 hb3 hsd hg' hWS
    go_loopw [6, 7] (fun v a wr => ∃ (i : Nat) (O : List Cn), i ≤ S.length ∧ a = .int .i64 (i : Int) ∧ Hid (GC w3.heap.size w3 v O wr) ∧ Hid (IsMerge O (S.take i) ∧ (∀ c ∈ O, ∀ d ∈ S.drop i, c.1 < d.1) ∧ Cut S i) ∧ O.length ≤ i) (fun _ a _ => S.length - (intOf a).toNat)
    case atStart => exact ⟨0, [], by omega, rfl, gc_new w3, ⟨isMerge_nil, (fun c hc => by cases hc), cut_zero S⟩, by simp⟩
    case round =>
      obtain ⟨i, O, hil, rfl, hG, hM, hOl⟩ := hrel
      by_cases hlt : i < S.length
      · obtain rfl := hao3 (by intro e; rw [e] at hlt; simp at hlt)
        have hlt' : (i : Int) < (S.length : Int) := by omega
        have hbw : Below w3.heap.size w3 wr := hG.out.below
        have hrw := HR3.out.below hbw (fun k => HR3.out.lt k)
        obtain ⟨q1, q2⟩ := hrw i hlt
        have HX : Hid (∃ x, x = S[i].1) := ⟨_, rfl⟩
        obtain ⟨x, hx⟩ := HX.out
        rw [← hx] at q1
        have Hx : Hid _ := hx
        clear hx HX q2
        have HRW : Hid (RowC wr b3 o3 S) := hrw
        clear hrw hbw
        have hMC : Hid (MC w3 wr.heap.size O b3 o3 S x 0 _ (wr.alloc (.cells #[.int .i64 x, .int .u64 0] 57))) := mc_new hG.out HRW.out x
        go_wp2_with fail
        generalize wr.heap.size = gc at hMC ⊢
        go_loopw [7] (fun a wr => ∃ j N : Nat, i ≤ j ∧ j ≤ S.length ∧ a = .int .i64 (j : Int) ∧ N < 18446744073709551616 ∧ Hid (MC w3 gc O b3 o3 S x N _ wr) ∧ Hid (Run S i j x ∧ N = key (S.take j) x % 18446744073709551616)) (fun a _ => S.length - (intOf a).toNat)
        case atStart => exact ⟨i, 0, Nat.le_refl _, by omega, rfl, by decide, hMC, ⟨fun t _ h1 h2 => by omega, by rw [key_cut hM.out.2.2 hlt Hx.out]⟩⟩
        case round =>
          obtain ⟨j, N, hij, hjl, rfl, hN, hK, hR⟩ := hrel
          have k0 := hK.out.c0
          have k1 := hK.out.c1
          have f1 := hK.out.fr 1
          by_cases hjt : j < S.length
          · have hjt' : (j : Int) < (S.length : Int) := by omega
            obtain ⟨r1, r2⟩ := hK.out.r j hjt
            by_cases hxe : S[j].1 = x
            · have HRn : Hid (Run S i (j + 1) x ∧ (N + S[j].2) % 18446744073709551616 = key (S.take (j + 1)) x % 18446744073709551616) := ⟨fun t ht h1 h2 => by
                  by_cases e : t = j
                  · subst e; exact hxe
                  · exact hR.out.1 t ht h1 (by omega), by rw [key_take S hjt, if_pos hxe, hR.out.2]; omega⟩
              rw [hxe] at r1
              have hbe : (x == x) = true := by simp
              generalize S[j].2 = y at *
              clear hxe
              have hw : IntKind.u64.wrap ((N : Int) + (y : Int)) = (((N + y) % 18446744073709551616 : Nat) : Int) := by rw [IntKind.wrap_u64]; omega
              have hMl : (N + y) % 18446744073709551616 < 18446744073709551616 := Nat.mod_lt _ (by decide)
              generalize (N + y) % 18446744073709551616 = M at *
              go_wp2_with fail
              go_region
              go_wp2_with fail
              go_region_with fail
              all_goals
                go_wp2_with fail
                exact ⟨⟨j + 1, M, by omega, by omega, by go_num, hMl, (hK.out.store M).drew.drew, HRn⟩, by simp [intOf]; omega⟩
            · have hij2 : i < j := by
                rcases Nat.eq_or_lt_of_le hij with e | e
                · subst e; exact absurd Hx.out.symm hxe
                · exact e
              have hbe : (S[j].1 == x) = false := by rw [beq_eq_false_iff_ne]; exact hxe
              have HCut : Hid (Cut S j) := cut_next HS.out hij2 hjl hM.out.2.2 hR.out.1 (fun _ => hxe)
              have HMn : Hid (IsMerge (if N ≠ 0 then O ++ [(x, N)] else O) (S.take j)) := group_merge hij2 hjl hM.out.1 hM.out.2.1 hR.out.1 hR.out.2
              have HMl : Hid (∀ c ∈ (if N ≠ 0 then O ++ [(x, N)] else O), ∀ d ∈ S.drop j, c.1 < d.1) := group_less hij2 hjl hM.out.2.1 hR.out.1 HCut.out
              generalize S[j].1 = z at *
              clear hxe
              have hGd := hK.out.g.drew
              have hgs : w3.heap.size ≤ wr.heap.size := hK.out.g.size
              have hO2 : O.length ≤ 2097152 := by omega
              by_cases hN0 : N = 0
              · subst hN0
                rw [if_neg (by decide)] at HMn HMl
                go_wp2_with fail
                go_region
                go_wp2_with fail
                exact ⟨⟨j, O, hjl, rfl, hGd, ⟨HMn.out, HMl.out, HCut.out⟩, by omega⟩, by simp [intOf]; omega⟩
              · have t1 : ((N : Int) != 0) = true := by rw [bne_iff_ne]; omega
                rw [if_pos hN0] at HMn HMl
                go_wp2_with fail
                go_region
                go_wp2_with (at_builtin; refine wpList_append_own _ rfl _ _ 42 rfl w3.heap.size 57 i0 (.agg #[.int .i64 0, .int .u64 0]) 2 16 Tryz.underlying42 hi hz0 hz1 hz2 rfl (by decide) _ _ _ rfl (hGd.own.alloc _) ⟨_, 0, none⟩ 1 1 [_, _] rfl rfl (cell_two_new _ _ _ _) (two_one x N) (by unfold maxLen; omega) (by omega) (by simp; omega) ?_; intro v5 w5 hown hgrow hnil; have hg' := hGd.push (x, N) _ hown hgrow; clear hown hgrow hnil)
                go_round
                case rel => exact ⟨j, O ++ [(x, N)], hjl, rfl, hg', ⟨HMn.out, HMl.out, HCut.out⟩, by rw [List.length_append, List.length_singleton]; omega⟩
                case measure => simp [intOf]; omega
          · obtain rfl : j = S.length := by omega
            have hjt' : ¬ (S.length : Int) < (S.length : Int) := by omega
            have HCut : Hid (Cut S S.length) := cut_next HS.out hlt hjl hM.out.2.2 hR.out.1 (fun h => absurd h (Nat.lt_irrefl _))
            have HMn : Hid (IsMerge (if N ≠ 0 then O ++ [(x, N)] else O) (S.take S.length)) := group_merge hlt hjl hM.out.1 hM.out.2.1 hR.out.1 hR.out.2
            have HMl : Hid (∀ c ∈ (if N ≠ 0 then O ++ [(x, N)] else O), ∀ d ∈ S.drop S.length, c.1 < d.1) := group_less hlt hjl hM.out.2.1 hR.out.1 HCut.out
            have hgs : w3.heap.size ≤ wr.heap.size := hK.out.g.size
            have hO2 : O.length ≤ 2097152 := by omega
            by_cases hN0 : N = 0
            · subst hN0
              rw [if_neg (by decide)] at HMn HMl
              go_wp2_with fail
              go_quiet (fail)
              have hGd := gc_drewN hK.out.g nq
              go_wp2_with fail
              exact ⟨⟨S.length, O, Nat.le_refl _, rfl, hGd, ⟨HMn.out, HMl.out, HCut.out⟩, by omega⟩, by simp [intOf]; omega⟩
            · have t1 : ((N : Int) != 0) = true := by rw [bne_iff_ne]; omega
              rw [if_pos hN0] at HMn HMl
              go_wp2_with fail
              go_quiet (fail)
              have hGd := gc_drewN hK.out.g nq
              go_wp2_with (at_builtin; refine wpList_append_own _ rfl _ _ 42 rfl w3.heap.size 57 i0 (.agg #[.int .i64 0, .int .u64 0]) 2 16 Tryz.underlying42 hi hz0 hz1 hz2 rfl (by decide) _ _ _ rfl (hGd.own.alloc _) ⟨_, 0, none⟩ 1 1 [_, _] rfl rfl (cell_two_new _ _ _ _) (two_one x N) (by unfold maxLen; omega) (by omega) (by simp; omega) ?_; intro v5 w5 hown hgrow hnil; have hg' := hGd.push (x, N) _ hown hgrow; clear hown hgrow hnil)
              go_round
              case rel => exact ⟨S.length, O ++ [(x, N)], Nat.le_refl _, rfl, hg', ⟨HMn.out, HMl.out, HCut.out⟩, by rw [List.length_append, List.length_singleton]; omega⟩
              case measure => simp [intOf]; omega
      · obtain rfl : i = S.length := by omega
        have hlt' : ¬ (S.length : Int) < (S.length : Int) := by omega
        have HMn : Hid (IsMerge O (A ++ [])) := by
          have := hM.out.1
          rw [List.take_length] at this
          exact this.perm HP.out
        go_wp2_with fail
        go_ret
        have HM2 : IsMerge O A := by have := HMn.out; rw [List.append_nil] at this; exact this
        exact ⟨_, O, rfl, (by first | exact HM2 | (rw [← hA0]; exact HM2)), hG.out.rebase HB3.out⟩
  · have HS : Hid (Srt S) := hs3
    have HP : Hid (S.Perm (A ++ [])) := by rw [List.append_nil]; exact hp3
    have hSl : S.length ≤ 2097152 := by rw [hp3.length_eq]; omega
    have HR3 : Hid (RowC w3 b3 o3 S) := hr3
    have HB3 : Hid (Below w.heap.size w w3) := bt hg'.below hb3
    have hWS : Wc S := fun c hc => hW c (by rw [List.append_nil]; exact hp3.mem_iff.1 hc)
    have HWS : Hid _ := hWS
    clear hs3 hp3 hr3 hb3 hsd hg' hWS
    go_loopw [6, 7] (fun v a wr => ∃ (i : Nat) (O : List Cn), i ≤ S.length ∧ a = .int .i64 (i : Int) ∧ Hid (GC w3.heap.size w3 v O wr) ∧ Hid (IsMerge O (S.take i) ∧ (∀ c ∈ O, ∀ d ∈ S.drop i, c.1 < d.1) ∧ Cut S i) ∧ O.length ≤ i) (fun _ a _ => S.length - (intOf a).toNat)
    case atStart => exact ⟨0, [], by omega, rfl, gc_new w3, ⟨isMerge_nil, (fun c hc => by cases hc), cut_zero S⟩, by simp⟩
    case round =>
      obtain ⟨i, O, hil, rfl, hG, hM, hOl⟩ := hrel
      by_cases hlt : i < S.length
      · obtain rfl := hao3 (by intro e; rw [e] at hlt; simp at hlt)
        have hlt' : (i : Int) < (S.length : Int) := by omega
        have hbw : Below w3.heap.size w3 wr := hG.out.below
        have hrw := HR3.out.below hbw (fun k => HR3.out.lt k)
        obtain ⟨q1, q2⟩ := hrw i hlt
        have HX : Hid (∃ x, x = S[i].1) := ⟨_, rfl⟩
        obtain ⟨x, hx⟩ := HX.out
        rw [← hx] at q1
        have Hx : Hid _ := hx
        clear hx HX q2
        have HRW : Hid (RowC wr b3 o3 S) := hrw
        clear hrw hbw
        have hMC : Hid (MC w3 wr.heap.size O b3 o3 S x 0 _ (wr.alloc (.cells #[.int .i64 x, .int .u64 0] 57))) := mc_new hG.out HRW.out x
        go_wp2_with fail
        generalize wr.heap.size = gc at hMC ⊢
        go_loopw [7] (fun a wr => ∃ j N : Nat, i ≤ j ∧ j ≤ S.length ∧ a = .int .i64 (j : Int) ∧ N < 18446744073709551616 ∧ Hid (MC w3 gc O b3 o3 S x N _ wr) ∧ Hid (Run S i j x ∧ N = key (S.take j) x % 18446744073709551616)) (fun a _ => S.length - (intOf a).toNat)
        case atStart => exact ⟨i, 0, Nat.le_refl _, by omega, rfl, by decide, hMC, ⟨fun t _ h1 h2 => by omega, by rw [key_cut hM.out.2.2 hlt Hx.out]⟩⟩
        case round =>
          obtain ⟨j, N, hij, hjl, rfl, hN, hK, hR⟩ := hrel
          have k0 := hK.out.c0
          have k1 := hK.out.c1
          have f1 := hK.out.fr 1
          by_cases hjt : j < S.length
          · have hjt' : (j : Int) < (S.length : Int) := by omega
            obtain ⟨r1, r2⟩ := hK.out.r j hjt
            by_cases hxe : S[j].1 = x
            · have HRn : Hid (Run S i (j + 1) x ∧ (N + S[j].2) % 18446744073709551616 = key (S.take (j + 1)) x % 18446744073709551616) := ⟨fun t ht h1 h2 => by
                  by_cases e : t = j
                  · subst e; exact hxe
                  · exact hR.out.1 t ht h1 (by omega), by rw [key_take S hjt, if_pos hxe, hR.out.2]; omega⟩
              rw [hxe] at r1
              have hbe : (x == x) = true := by simp
              generalize S[j].2 = y at *
              clear hxe
              have hw : IntKind.u64.wrap ((N : Int) + (y : Int)) = (((N + y) % 18446744073709551616 : Nat) : Int) := by rw [IntKind.wrap_u64]; omega
              have hMl : (N + y) % 18446744073709551616 < 18446744073709551616 := Nat.mod_lt _ (by decide)
              generalize (N + y) % 18446744073709551616 = M at *
              go_wp2_with fail
              go_region
              go_wp2_with fail
              go_region_with fail
              all_goals
                go_wp2_with fail
                exact ⟨⟨j + 1, M, by omega, by omega, by go_num, hMl, (hK.out.store M).drew.drew, HRn⟩, by simp [intOf]; omega⟩
            · have hij2 : i < j := by
                rcases Nat.eq_or_lt_of_le hij with e | e
                · subst e; exact absurd Hx.out.symm hxe
                · exact e
              have hbe : (S[j].1 == x) = false := by rw [beq_eq_false_iff_ne]; exact hxe
              have HCut : Hid (Cut S j) := cut_next HS.out hij2 hjl hM.out.2.2 hR.out.1 (fun _ => hxe)
              have HMn : Hid (IsMerge (if N ≠ 0 then O ++ [(x, N)] else O) (S.take j)) := group_merge hij2 hjl hM.out.1 hM.out.2.1 hR.out.1 hR.out.2
              have HMl : Hid (∀ c ∈ (if N ≠ 0 then O ++ [(x, N)] else O), ∀ d ∈ S.drop j, c.1 < d.1) := group_less hij2 hjl hM.out.2.1 hR.out.1 HCut.out
              generalize S[j].1 = z at *
              clear hxe
              have hGd := hK.out.g.drew
              have hgs : w3.heap.size ≤ wr.heap.size := hK.out.g.size
              have hO2 : O.length ≤ 2097152 := by omega
              by_cases hN0 : N = 0
              · subst hN0
                rw [if_neg (by decide)] at HMn HMl
                go_wp2_with fail
                go_region
                go_wp2_with fail
                exact ⟨⟨j, O, hjl, rfl, hGd, ⟨HMn.out, HMl.out, HCut.out⟩, by omega⟩, by simp [intOf]; omega⟩
              · have t1 : ((N : Int) != 0) = true := by rw [bne_iff_ne]; omega
                rw [if_pos hN0] at HMn HMl
                go_wp2_with fail
                go_region
                go_wp2_with (at_builtin; refine wpList_append_own _ rfl _ _ 42 rfl w3.heap.size 57 i0 (.agg #[.int .i64 0, .int .u64 0]) 2 16 Tryz.underlying42 hi hz0 hz1 hz2 rfl (by decide) _ _ _ rfl (hGd.own.alloc _) ⟨_, 0, none⟩ 1 1 [_, _] rfl rfl (cell_two_new _ _ _ _) (two_one x N) (by unfold maxLen; omega) (by omega) (by simp; omega) ?_; intro v5 w5 hown hgrow hnil; have hg' := hGd.push (x, N) _ hown hgrow; clear hown hgrow hnil)
                go_round
                case rel => exact ⟨j, O ++ [(x, N)], hjl, rfl, hg', ⟨HMn.out, HMl.out, HCut.out⟩, by rw [List.length_append, List.length_singleton]; omega⟩
                case measure => simp [intOf]; omega
          · obtain rfl : j = S.length := by omega
            have hjt' : ¬ (S.length : Int) < (S.length : Int) := by omega
            have HCut : Hid (Cut S S.length) := cut_next HS.out hlt hjl hM.out.2.2 hR.out.1 (fun h => absurd h (Nat.lt_irrefl _))
            have HMn : Hid (IsMerge (if N ≠ 0 then O ++ [(x, N)] else O) (S.take S.length)) := group_merge hlt hjl hM.out.1 hM.out.2.1 hR.out.1 hR.out.2
            have HMl : Hid (∀ c ∈ (if N ≠ 0 then O ++ [(x, N)] else O), ∀ d ∈ S.drop S.length, c.1 < d.1) := group_less hlt hjl hM.out.2.1 hR.out.1 HCut.out
            have hgs : w3.heap.size ≤ wr.heap.size := hK.out.g.size
            have hO2 : O.length ≤ 2097152 := by omega
            by_cases hN0 : N = 0
            · subst hN0
              rw [if_neg (by decide)] at HMn HMl
              go_wp2_with fail
              go_quiet (fail)
              have hGd := gc_drewN hK.out.g nq
              go_wp2_with fail
              exact ⟨⟨S.length, O, Nat.le_refl _, rfl, hGd, ⟨HMn.out, HMl.out, HCut.out⟩, by omega⟩, by simp [intOf]; omega⟩
            · have t1 : ((N : Int) != 0) = true := by rw [bne_iff_ne]; omega
              rw [if_pos hN0] at HMn HMl
              go_wp2_with fail
              go_quiet (fail)
              have hGd := gc_drewN hK.out.g nq
              go_wp2_with (at_builtin; refine wpList_append_own _ rfl _ _ 42 rfl w3.heap.size 57 i0 (.agg #[.int .i64 0, .int .u64 0]) 2 16 Tryz.underlying42 hi hz0 hz1 hz2 rfl (by decide) _ _ _ rfl (hGd.own.alloc _) ⟨_, 0, none⟩ 1 1 [_, _] rfl rfl (cell_two_new _ _ _ _) (two_one x N) (by unfold maxLen; omega) (by omega) (by simp; omega) ?_; intro v5 w5 hown hgrow hnil; have hg' := hGd.push (x, N) _ hown hgrow; clear hown hgrow hnil)
              go_round
              case rel => exact ⟨S.length, O ++ [(x, N)], Nat.le_refl _, rfl, hg', ⟨HMn.out, HMl.out, HCut.out⟩, by rw [List.length_append, List.length_singleton]; omega⟩
              case measure => simp [intOf]; omega
      · obtain rfl : i = S.length := by omega
        have hlt' : ¬ (S.length : Int) < (S.length : Int) := by omega
        have HMn : Hid (IsMerge O (A ++ [])) := by
          have := hM.out.1
          rw [List.take_length] at this
          exact this.perm HP.out
        go_wp2_with fail
        go_ret
        have HM2 : IsMerge O A := by have := HMn.out; rw [List.append_nil] at this; exact this
        exact ⟨_, O, rfl, (by first | exact HM2 | (rw [← hA0]; exact HM2)), hG.out.rebase HB3.out⟩
set_option maxRecDepth 10000 in
set_option maxHeartbeats 4000000 in
theorem merge_none (w : World) : Calls Tryz.prog 46 #[.slice none 0 0, .slice none 0 0] w fun e w' => Md w [] e w' := by
  obtain ⟨i0, hi, hz0, hz1, hz2⟩ := info_parts infoC
  go_enter Tryz.func46, Tryz.ntmps46
  go_wp2_with (go_at_call 82; refine (sorted_nil _).mono ?_; rintro e w3 hsd; obtain ⟨ao3, b3, o3, c3, S, rfl, hao3, hs3, hp3, hr3, hb3⟩ := sd_gen hsd)
  have HS : Hid (Srt S) := hs3
  have HP : Hid (S.Perm []) := hp3
  have hSl : S.length ≤ 2097152 := by rw [hp3.length_eq]; simp
  have HR3 : Hid (RowC w3 b3 o3 S) := hr3
  have HB3 : Hid (Below w.heap.size w w3) := hb3
  have hWS : Wc S := fun c hc => absurd (hp3.mem_iff.1 hc) (by simp)
  have HWS : Hid _ := hWS
  clear hs3 hp3 hr3 hb3 hsd hWS
  go_loopw [6, 7] (fun v a wr => ∃ (i : Nat) (O : List Cn), i ≤ S.length ∧ a = .int .i64 (i : Int) ∧ Hid (GC w3.heap.size w3 v O wr) ∧ Hid (IsMerge O (S.take i) ∧ (∀ c ∈ O, ∀ d ∈ S.drop i, c.1 < d.1) ∧ Cut S i) ∧ O.length ≤ i) (fun _ a _ => S.length - (intOf a).toNat)
  case atStart => exact ⟨0, [], by omega, rfl, gc_new w3, ⟨isMerge_nil, (fun c hc => by cases hc), cut_zero S⟩, by simp⟩
  case round =>
    obtain ⟨i, O, hil, rfl, hG, hM, hOl⟩ := hrel
    by_cases hlt : i < S.length
    · obtain rfl := hao3 (by intro e; rw [e] at hlt; simp at hlt)
      have hlt' : (i : Int) < (S.length : Int) := by omega
      have hbw : Below w3.heap.size w3 wr := hG.out.below
      have hrw := HR3.out.below hbw (fun k => HR3.out.lt k)
      obtain ⟨q1, q2⟩ := hrw i hlt
      have HX : Hid (∃ x, x = S[i].1) := ⟨_, rfl⟩
      obtain ⟨x, hx⟩ := HX.out
      rw [← hx] at q1
      have Hx : Hid _ := hx
      clear hx HX q2
      have HRW : Hid (RowC wr b3 o3 S) := hrw
      clear hrw hbw
      have hMC : Hid (MC w3 wr.heap.size O b3 o3 S x 0 _ (wr.alloc (.cells #[.int .i64 x, .int .u64 0] 57))) := mc_new hG.out HRW.out x
      go_wp2_with fail
      generalize wr.heap.size = gc at hMC ⊢
      go_loopw [7] (fun a wr => ∃ j N : Nat, i ≤ j ∧ j ≤ S.length ∧ a = .int .i64 (j : Int) ∧ N < 18446744073709551616 ∧ Hid (MC w3 gc O b3 o3 S x N _ wr) ∧ Hid (Run S i j x ∧ N = key (S.take j) x % 18446744073709551616)) (fun a _ => S.length - (intOf a).toNat)
      case atStart => exact ⟨i, 0, Nat.le_refl _, by omega, rfl, by decide, hMC, ⟨fun t _ h1 h2 => by omega, by rw [key_cut hM.out.2.2 hlt Hx.out]⟩⟩
      case round =>
        obtain ⟨j, N, hij, hjl, rfl, hN, hK, hR⟩ := hrel
        have k0 := hK.out.c0
        have k1 := hK.out.c1
        have f1 := hK.out.fr 1
        by_cases hjt : j < S.length
        · have hjt' : (j : Int) < (S.length : Int) := by omega
          obtain ⟨r1, r2⟩ := hK.out.r j hjt
          by_cases hxe : S[j].1 = x
          · have HRn : Hid (Run S i (j + 1) x ∧ (N + S[j].2) % 18446744073709551616 = key (S.take (j + 1)) x % 18446744073709551616) := ⟨fun t ht h1 h2 => by
                by_cases e : t = j
                · subst e; exact hxe
                · exact hR.out.1 t ht h1 (by omega), by rw [key_take S hjt, if_pos hxe, hR.out.2]; omega⟩
            rw [hxe] at r1
            have hbe : (x == x) = true := by simp
            generalize S[j].2 = y at *
            clear hxe
            have hw : IntKind.u64.wrap ((N : Int) + (y : Int)) = (((N + y) % 18446744073709551616 : Nat) : Int) := by rw [IntKind.wrap_u64]; omega
            have hMl : (N + y) % 18446744073709551616 < 18446744073709551616 := Nat.mod_lt _ (by decide)
            generalize (N + y) % 18446744073709551616 = M at *
            go_wp2_with fail
            go_region
            go_wp2_with fail
            go_region_with fail
            all_goals
              go_wp2_with fail
              exact ⟨⟨j + 1, M, by omega, by omega, by go_num, hMl, (hK.out.store M).drew.drew, HRn⟩, by simp [intOf]; omega⟩
          · have hij2 : i < j := by
              rcases Nat.eq_or_lt_of_le hij with e | e
              · subst e; exact absurd Hx.out.symm hxe
              · exact e
            have hbe : (S[j].1 == x) = false := by rw [beq_eq_false_iff_ne]; exact hxe
            have HCut : Hid (Cut S j) := cut_next HS.out hij2 hjl hM.out.2.2 hR.out.1 (fun _ => hxe)
            have HMn : Hid (IsMerge (if N ≠ 0 then O ++ [(x, N)] else O) (S.take j)) := group_merge hij2 hjl hM.out.1 hM.out.2.1 hR.out.1 hR.out.2
            have HMl : Hid (∀ c ∈ (if N ≠ 0 then O ++ [(x, N)] else O), ∀ d ∈ S.drop j, c.1 < d.1) := group_less hij2 hjl hM.out.2.1 hR.out.1 HCut.out
            generalize S[j].1 = z at *
            clear hxe
            have hGd := hK.out.g.drew
            have hgs : w3.heap.size ≤ wr.heap.size := hK.out.g.size
            have hO2 : O.length ≤ 2097152 := by omega
            by_cases hN0 : N = 0
            · subst hN0
              rw [if_neg (by decide)] at HMn HMl
              go_wp2_with fail
              go_region
              go_wp2_with fail
              exact ⟨⟨j, O, hjl, rfl, hGd, ⟨HMn.out, HMl.out, HCut.out⟩, by omega⟩, by simp [intOf]; omega⟩
            · have t1 : ((N : Int) != 0) = true := by rw [bne_iff_ne]; omega
              rw [if_pos hN0] at HMn HMl
              go_wp2_with fail
              go_region
              go_wp2_with (at_builtin; refine wpList_append_own _ rfl _ _ 42 rfl w3.heap.size 57 i0 (.agg #[.int .i64 0, .int .u64 0]) 2 16 Tryz.underlying42 hi hz0 hz1 hz2 rfl (by decide) _ _ _ rfl (hGd.own.alloc _) ⟨_, 0, none⟩ 1 1 [_, _] rfl rfl (cell_two_new _ _ _ _) (two_one x N) (by unfold maxLen; omega) (by omega) (by simp; omega) ?_; intro v5 w5 hown hgrow hnil; have hg' := hGd.push (x, N) _ hown hgrow; clear hown hgrow hnil)
              go_round
              case rel => exact ⟨j, O ++ [(x, N)], hjl, rfl, hg', ⟨HMn.out, HMl.out, HCut.out⟩, by rw [List.length_append, List.length_singleton]; omega⟩
              case measure => simp [intOf]; omega
        · obtain rfl : j = S.length := by omega
          have hjt' : ¬ (S.length : Int) < (S.length : Int) := by omega
          have HCut : Hid (Cut S S.length) := cut_next HS.out hlt hjl hM.out.2.2 hR.out.1 (fun h => absurd h (Nat.lt_irrefl _))
          have HMn : Hid (IsMerge (if N ≠ 0 then O ++ [(x, N)] else O) (S.take S.length)) := group_merge hlt hjl hM.out.1 hM.out.2.1 hR.out.1 hR.out.2
          have HMl : Hid (∀ c ∈ (if N ≠ 0 then O ++ [(x, N)] else O), ∀ d ∈ S.drop S.length, c.1 < d.1) := group_less hlt hjl hM.out.2.1 hR.out.1 HCut.out
          have hgs : w3.heap.size ≤ wr.heap.size := hK.out.g.size
          have hO2 : O.length ≤ 2097152 := by omega
          by_cases hN0 : N = 0
          · subst hN0
            rw [if_neg (by decide)] at HMn HMl
            go_wp2_with fail
            go_quiet (fail)
            have hGd := gc_drewN hK.out.g nq
            go_wp2_with fail
            exact ⟨⟨S.length, O, Nat.le_refl _, rfl, hGd, ⟨HMn.out, HMl.out, HCut.out⟩, by omega⟩, by simp [intOf]; omega⟩
          · have t1 : ((N : Int) != 0) = true := by rw [bne_iff_ne]; omega
            rw [if_pos hN0] at HMn HMl
            go_wp2_with fail
            go_quiet (fail)
            have hGd := gc_drewN hK.out.g nq
            go_wp2_with (at_builtin; refine wpList_append_own _ rfl _ _ 42 rfl w3.heap.size 57 i0 (.agg #[.int .i64 0, .int .u64 0]) 2 16 Tryz.underlying42 hi hz0 hz1 hz2 rfl (by decide) _ _ _ rfl (hGd.own.alloc _) ⟨_, 0, none⟩ 1 1 [_, _] rfl rfl (cell_two_new _ _ _ _) (two_one x N) (by unfold maxLen; omega) (by omega) (by simp; omega) ?_; intro v5 w5 hown hgrow hnil; have hg' := hGd.push (x, N) _ hown hgrow; clear hown hgrow hnil)
            go_round
            case rel => exact ⟨S.length, O ++ [(x, N)], Nat.le_refl _, rfl, hg', ⟨HMn.out, HMl.out, HCut.out⟩, by rw [List.length_append, List.length_singleton]; omega⟩
            case measure => simp [intOf]; omega
    · obtain rfl : i = S.length := by omega
      have hlt' : ¬ (S.length : Int) < (S.length : Int) := by omega
      have HMn : Hid (IsMerge O []) := by
        have := hM.out.1
        rw [List.take_length] at this
        exact this.perm HP.out
      go_wp2_with fail
      go_ret
      exact ⟨_, O, rfl, HMn.out, hG.out.rebase HB3.out⟩
end Go.Proofs.YtckdkcnnfjbdmaaGreat
