/- sorted, the document's. Own work of the verifier. -/
import Derived.Test.YthhoklgfgandpaaC8
namespace Go.Proofs.Ythhoklgfgandpaa
open Go.RowKit

/-- What sorted tells. -/
def Sd (W : World) (L : List Cn) (e : Ending) (w' : World) : Prop := ∃ v' S, e = .returned v' ∧ Srt S ∧ S.Perm L ∧ GC W.heap.size W v' S w'
theorem own_nil (w : World) (B : Nat) : w.ownsRow B 49 2 (.slice none 0 0) 0 [] := ⟨rfl, Or.inl ⟨rfl, rfl⟩⟩
theorem srt_short {L : List Cn} (h : L.length < 2) : Srt L := by
  match L, h with
  | [], _ => exact List.Pairwise.nil
  | [c], _ => exact List.pairwise_singleton _ _
theorem gc_of {w w' : World} {v' : Value} {L : List Cn} (hown : w'.ownsRow w.heap.size 49 2 v' (0 + L.length) ([] ++ fl L)) (hg : w.grownBy w' none) : GC w.heap.size w v' L w' := by
  rw [Nat.zero_add, List.nil_append] at hown
  exact ⟨hown, (Below.refl w.heap.size w).grown hg (Nat.le_refl _) (fun k e => by cases e), hg.size⟩
set_option maxHeartbeats 1000000 in
theorem sorted_short (b o cap : Nat) (L : List Cn) (hl : L.length < 2) (w : World) (hR : RowC w b o L) :
    Calls Try.prog 39 #[.slice (some ⟨b, o, none⟩) L.length cap] w fun e w' => Sd w L e w' := by
  obtain ⟨i0, hi, hz0, hz1, hz2⟩ := info_parts infoC
  have t1 : (L.length : Int) < 2 := by omega
  have HC : Hid _ := hR.cells
  go_enter Try.func39, Try.ntmps39
  go_wp2_with (at_builtin; refine wpList_append_own _ rfl _ _ 23 rfl w.heap.size 49 i0 (.agg #[.int .i64 0, .int .u64 0]) 2 16 Try.underlying23 hi hz0 hz1 hz2 rfl (by decide) _ _ _ rfl (own_nil _ _) ⟨b, o, none⟩ L.length cap (fl L) rfl (fl_length L) HC.out (fl_one L) (by unfold maxLen; omega) (by omega) (by omega) ?_; intro v' w' hown hgrow hnil)
  go_ret
  exact ⟨v', L, rfl, srt_short hl, List.Perm.refl _, gc_of hown hgrow⟩
theorem sorted_nil (w : World) :
    Calls Try.prog 39 #[.slice none 0 0] w fun e w' => Sd w [] e w' := by
  go_enter Try.func39, Try.ntmps39
  go_wp2_with fail
  go_ret
  exact ⟨_, [], rfl, List.Pairwise.nil, List.Perm.refl _, ⟨own_nil _ _, Below.refl _ _, Nat.le_refl _⟩⟩
theorem RowC.take {w : World} {b o : Nat} {L : List Cn} (h : RowC w b o L) (k : Nat) : RowC w b o (L.take k) := fun i hi => by
  rw [List.length_take] at hi
  rw [List.getElem_take]
  exact h i (by omega)
theorem RowC.drop {w : World} {b o : Nat} {L : List Cn} (h : RowC w b o L) (k : Nat) : RowC w b (o + k * 2) (L.drop k) := fun i hi => by
  rw [List.length_drop] at hi
  rw [List.getElem_drop]
  have := h (k + i) (by omega)
  rw [show o + (k + i) * 2 = o + k * 2 + i * 2 by omega] at this
  exact this
theorem sd_open {W w' : World} {A : List Cn} {e : Ending} {m : Nat} (h : Sd W A e w') (hm : A.length = m) (h1 : 1 ≤ m) : ∃ g cap S, e = .returned (.slice (some ⟨g, 0, none⟩) m cap) ∧ Srt S ∧ S.Perm A ∧ RowC w' g 0 S ∧ Below W.heap.size W w' ∧ S.length = m ∧ m ≤ cap := by
  obtain ⟨v', S, rfl, hs, hp, hg⟩ := h
  have hl : S.length = m := by rw [hp.length_eq, hm]
  obtain ⟨ao, b, o, cap, rfl, ha, hr⟩ := hg.sc
  rcases hg.own.2 with ⟨k1, k2⟩ | ⟨g, cap', cur, hv, _⟩
  · omega
  · rename_i hrest
    have hcp := hrest.2.2.1
    cases hv
    have hne : S ≠ [] := fun e => by rw [e] at hl; simp at hl; omega
    have := ha hne
    cases this
    rw [hl]
    exact ⟨_, _, S, rfl, hs, hp, hr, hg.below, hl, by omega⟩
/-- The length of a slice. -/
def slen : Value → Nat
  | .slice _ n _ => n
  | _ => 0
/-- What the merging of two rising lists keeps. -/
structure MI (A B : List Cn) (i j : Nat) (O : List Cn) : Prop where
  srt : Srt O
  la : ∀ c ∈ O, ∀ d ∈ A.drop i, c.1 ≤ d.1
  lb : ∀ c ∈ O, ∀ d ∈ B.drop j, c.1 ≤ d.1
  perm : (O ++ (A.drop i ++ B.drop j)).Perm (A ++ B)
  len : O.length = i + j
theorem mi_start (A B : List Cn) : MI A B 0 0 [] := ⟨List.Pairwise.nil, (fun c hc => by cases hc), (fun c hc => by cases hc), by simp, rfl⟩
theorem srt_snoc {O : List Cn} {x : Cn} (h : Srt O) (hx : ∀ c ∈ O, c.1 ≤ x.1) : Srt (O ++ [x]) := List.pairwise_append.2 ⟨h, List.pairwise_singleton _ _, fun a ha b hb => by rw [List.mem_singleton.1 hb]; exact hx a ha⟩
theorem srt_drop_le {A : List Cn} (h : Srt A) {i : Nat} (hi : i < A.length) : ∀ d ∈ A.drop i, A[i].1 ≤ d.1 := by
  rw [List.drop_eq_getElem_cons hi]
  intro d hd
  rcases List.mem_cons.1 hd with rfl | hd
  · exact Int.le_refl _
  · have hp : Srt (A.drop i) := List.Pairwise.sublist (List.drop_sublist _ _) h
    rw [List.drop_eq_getElem_cons hi] at hp
    exact (List.pairwise_cons.1 hp).1 d hd
theorem MI.left {A B O : List Cn} {i j : Nat} (h : MI A B i j O) (hA : Srt A) (hB : Srt B) (hi : i < A.length) (hj : j < B.length) (hle : A[i].1 ≤ B[j].1) : MI A B (i + 1) j (O ++ [A[i]]) := by
  have hm : A[i] ∈ A.drop i := by rw [List.drop_eq_getElem_cons hi]; exact List.mem_cons_self
  refine ⟨srt_snoc h.srt (fun c hc => h.la c hc _ hm), ?_, ?_, ?_, by rw [List.length_append, h.len, List.length_singleton]; omega⟩
  · intro c hc d hd
    have hd' : d ∈ A.drop i := by rw [List.drop_eq_getElem_cons hi]; exact List.mem_cons_of_mem _ hd
    rcases List.mem_append.1 hc with k | k
    · exact h.la c k d hd'
    · rw [List.mem_singleton.1 k]; exact srt_drop_le hA hi d hd'
  · intro c hc d hd
    rcases List.mem_append.1 hc with k | k
    · exact h.lb c k d hd
    · rw [List.mem_singleton.1 k]
      have := srt_drop_le hB hj d hd
      omega
  · have e : O ++ [A[i]] ++ (A.drop (i + 1) ++ B.drop j) = O ++ (A.drop i ++ B.drop j) := by rw [List.drop_eq_getElem_cons hi, List.append_assoc]; rfl
    rw [e]
    exact h.perm
theorem MI.right {A B O : List Cn} {i j : Nat} (h : MI A B i j O) (hA : Srt A) (hB : Srt B) (hi : i < A.length) (hj : j < B.length) (hle : ¬ A[i].1 ≤ B[j].1) : MI A B i (j + 1) (O ++ [B[j]]) := by
  have hm : B[j] ∈ B.drop j := by rw [List.drop_eq_getElem_cons hj]; exact List.mem_cons_self
  refine ⟨srt_snoc h.srt (fun c hc => h.lb c hc _ hm), ?_, ?_, ?_, by rw [List.length_append, h.len, List.length_singleton]; omega⟩
  · intro c hc d hd
    rcases List.mem_append.1 hc with k | k
    · exact h.la c k d hd
    · rw [List.mem_singleton.1 k]
      have := srt_drop_le hA hi d hd
      omega
  · intro c hc d hd
    have hd' : d ∈ B.drop j := by rw [List.drop_eq_getElem_cons hj]; exact List.mem_cons_of_mem _ hd
    rcases List.mem_append.1 hc with k | k
    · exact h.lb c k d hd'
    · rw [List.mem_singleton.1 k]; exact srt_drop_le hB hj d hd'
  · refine List.Perm.trans ?_ h.perm
    rw [List.drop_eq_getElem_cons hj, List.append_assoc]
    refine List.Perm.append_left _ ?_
    rw [List.singleton_append]
    exact List.perm_middle.symm
/-- At the end. -/
theorem MI.fin {A B O : List Cn} {i j : Nat} (h : MI A B i j O) (hA : Srt A) (hB : Srt B) (he : A.drop i = [] ∨ B.drop j = []) : Srt (O ++ A.drop i ++ B.drop j) ∧ (O ++ A.drop i ++ B.drop j).Perm (A ++ B) := by
  refine ⟨?_, by rw [List.append_assoc]; exact h.perm⟩
  have a1 : Srt (A.drop i) := List.Pairwise.sublist (List.drop_sublist _ _) hA
  have b1 : Srt (B.drop j) := List.Pairwise.sublist (List.drop_sublist _ _) hB
  rcases he with e | e
  · rw [e, List.append_nil]
    exact List.pairwise_append.2 ⟨h.srt, b1, h.lb⟩
  · rw [e, List.append_nil]
    exact List.pairwise_append.2 ⟨h.srt, a1, h.la⟩
theorem gc_new (w : World) : GC w.heap.size w (.slice (some ⟨w.heap.size, 0, none⟩) 0 0) [] (w.alloc (.cells #[] 49)) := by
  refine ⟨⟨rfl, .inr ⟨w.heap.size, 0, #[], rfl, Nat.le_refl _, ?_, Nat.le_refl _, by unfold maxLen; omega, rfl, rfl⟩⟩, (Below.refl _ _).alloc (Nat.le_refl _) _, by simp⟩
  show (w.heap.push _)[w.heap.size]? = _
  simp
theorem cell_two_new (w : World) (x y : Value) (t : TypeId) : ∀ j u, [x, y][j]? = some u → (w.alloc (.cells #[x, y] t)).cell? ((⟨w.heap.size, 0, none⟩ : Addr).add j) = some u := by
  intro j u hu
  rw [Addr.add_lit]
  unfold World.cell?
  have hh : (w.alloc (.cells #[x, y] t)).heap[w.heap.size]? = some (.cells #[x, y] t) := by
    show (w.heap.push _)[w.heap.size]? = _
    simp
  rw [hh]
  match j, hu with
  | 0, hu => simpa using hu
  | 1, hu => simpa using hu
  | j + 2, hu => simp at hu
theorem two_one (x : Int) (y : Nat) : ∀ u ∈ [Value.int .i64 x, Value.int .u64 (y : Int)], u.oneCell' = true := by
  intro u hu
  simp at hu
  rcases hu with rfl | rfl <;> rfl
theorem GC.drew {B : Nat} {W0 w : World} {v : Value} {xs : List Cn} (h : GC B W0 v xs w) : GC B W0 v xs w.drew := ⟨h.own, h.below.drew, h.size⟩
theorem GC.grow {B : Nat} {W0 w w1 w' : World} {v v' : Value} {xs ys : List Cn} (h : GC B W0 v xs w) (hb : Below B W0 w1) (hs : B ≤ w1.heap.size) (hown : w'.ownsRow B 49 2 v' (xs.length + ys.length) (fl xs ++ fl ys)) (hg : w1.grownBy w' v.ownBlock) : GC B W0 v' (xs ++ ys) w' := by
  refine ⟨by rw [List.length_append, fl_append]; exact hown, ?_, by have := hg.size; omega⟩
  refine hb.grown hg hs (fun k e => ?_)
  rcases h.own.2 with ⟨rfl, _⟩ | ⟨g, cap, cur, rfl, hB, _⟩
  · cases e
  · cases e; exact hB
theorem GC.push {B : Nat} {W0 w w' : World} {v v' : Value} {xs : List Cn} (h : GC B W0 v xs w) (x : Cn) (ob : Obj) (hown : w'.ownsRow B 49 2 v' (xs.length + 1) (fl xs ++ [.int .i64 x.1, .int .u64 (x.2 : Int)])) (hg : (w.alloc ob).grownBy w' v.ownBlock) : GC B W0 v' (xs ++ [x]) w' :=
  h.grow (ys := [x]) (h.below.alloc h.size _) (by simp; have := h.size; omega) hown hg
theorem GC.rebase {W0 W2 w : World} {v : Value} {xs : List Cn} (h : GC W2.heap.size W2 v xs w) (hb : Below W0.heap.size W0 W2) : GC W0.heap.size W0 v xs w := by
  have hs := hb.size
  refine ⟨⟨h.own.1, ?_⟩, hb.trans (h.below.mono hs), by have := h.size; omega⟩
  rcases h.own.2 with k | ⟨g, cap, cur, hv, hB, hrest⟩
  · exact Or.inl k
  · exact Or.inr ⟨g, cap, cur, hv, by omega, hrest⟩
set_option maxRecDepth 10000 in
set_option maxHeartbeats 4000000 in
theorem sorted_long (b o cap : Nat) (L : List Cn) (hl : 2 ≤ L.length) (hl2 : L.length ≤ 4194304) (hcap : L.length ≤ cap) (ih : ∀ (A : List Cn) (b o cap : Nat) (W : World), A.length < L.length → A.length ≤ cap → RowC W b o A → Calls Try.prog 39 #[.slice (some ⟨b, o, none⟩) A.length cap] W fun e w' => Sd W A e w') (w : World) (hR : RowC w b o L) :
    Calls Try.prog 39 #[.slice (some ⟨b, o, none⟩) L.length cap] w fun e w' => Sd w L e w' := by
  obtain ⟨i0, hi, hz0, hz1, hz2⟩ := info_parts infoC
  have t1 : ¬ (L.length : Int) < 2 := by omega
  obtain ⟨h, hh, h1, h2⟩ : ∃ h : Nat, (L.length : Int) / 2 = (h : Int) ∧ 1 ≤ h ∧ h < L.length := ⟨L.length / 2, by omega, by omega, by omega⟩
  obtain ⟨n, hn⟩ : ∃ n, L.length = n := ⟨_, rfl⟩
  have HI : Hid _ := ih
  have HN : Hid _ := hn
  rw [hn] at hh h2 hl hl2 hcap t1 HI ⊢
  clear ih hn
  have c1 : ¬ (cap : Int) < (h : Int) := by omega
  have c2 : (h : Int) ≤ (n : Int) := by omega
  have H1 : Hid (∀ W, W = w → Calls Try.prog 39 #[.slice (some ⟨b, o, none⟩) h cap] W fun e w' => Sd W (L.take h) e w') := fun W e => by
    have hlen : (L.take h).length = h := by rw [List.length_take, HN.out]; omega
    have := HI.out (L.take h) b o cap W (by rw [hlen]; exact h2) (by rw [hlen]; omega) (by rw [e]; exact hR.take h)
    rw [hlen] at this
    exact this
  have H2 : Hid (∀ W, Below w.heap.size w W → Calls Try.prog 39 #[.slice (some ⟨b, o + h * 2, none⟩) (n - h) (cap - h)] W fun e w' => Sd W (L.drop h) e w') := fun W e => by
    have hlen : (L.drop h).length = n - h := by rw [List.length_drop, HN.out]
    have := HI.out (L.drop h) b (o + h * 2) (cap - h) W (by rw [hlen]; omega) (by rw [hlen]; omega) ((hR.below e (fun k => hR.lt k)).drop h)
    rw [hlen] at this
    exact this
  have hl1 : Hid ((L.take h).length = h ∧ (L.drop h).length = n - h) := ⟨by rw [List.length_take, HN.out]; omega, by rw [List.length_drop, HN.out]⟩
  clear HI
  go_enter Try.func39, Try.ntmps39
  go_wp2_with (first
    | (go_at_call 39; with_reducible refine (H1.out _ rfl).mono ?_; rintro e w1 hsd1; obtain ⟨g1, k1, S1, rfl, hs1, hp1, hr1, hb1, hn1, hk1⟩ := sd_open hsd1 hl1.out.1 h1)
    | (go_at_call 39; with_reducible refine (H2.out _ hb1).mono ?_; rintro e w2 hsd2; obtain ⟨g2, k2, S2, rfl, hs2, hp2, hr2, hb2, hn2, hk2⟩ := sd_open hsd2 hl1.out.2 (by omega)))
  have hr1' := hr1.below hb2 (fun k => hr1.lt k)
  have HR1 : Hid (RowC w2 g1 0 S1) := hr1'
  have HR2 : Hid (RowC w2 g2 0 S2) := hr2
  have HP : Hid ((S1 ++ S2).Perm L) := by
    have := hp1.append hp2
    rw [List.take_append_drop] at this
    exact this
  have HS : Hid (Srt S1 ∧ Srt S2) := ⟨hs1, hs2⟩
  have HB : Hid (Below w.heap.size w w2) := bt hb1 hb2
  obtain ⟨m, hm⟩ : ∃ m, m = n - h := ⟨_, rfl⟩
  rw [← hm] at hn2 hk2 ⊢
  have hm1 : 1 ≤ m := by omega
  have hm2 : h + m ≤ 4194304 := by omega
  have HMm : Hid _ := hm
  clear hm
  clear hr1 hr1' hr2 hp1 hp2 hs1 hs2 hb1 hb2 hsd1 hsd2 H1 H2
  go_loopw [3, 4, 5] (fun a c d wr => ∃ (i j : Nat) (O : List Cn) (x1 x2 ka kb : Nat), i ≤ h ∧ j ≤ m ∧ a = .slice (some ⟨g1, x1, none⟩) (h - i) ka ∧ c = .slice (some ⟨g2, x2, none⟩) (m - j) kb ∧ h - i ≤ ka ∧ m - j ≤ kb ∧ (i < h → x1 = i * 2) ∧ (j < m → x2 = j * 2) ∧ Hid (GC w2.heap.size w2 d O wr) ∧ Hid (MI S1 S2 i j O)) (fun a c _ _ => slen a + slen c)
  case atStart => exact ⟨0, 0, [], 0, 0, k1, k2, by omega, by omega, rfl, rfl, by omega, by omega, fun _ => rfl, fun _ => rfl, gc_new w2, mi_start S1 S2⟩
  case round =>
    obtain ⟨i, j, O, x1, x2, ka, kb, hi1, hj1, rfl, rfl, hka, hkb, hx1, hx2, hG, hM⟩ := hrel
    by_cases hlt : i < h ∧ j < m
    · obtain ⟨hlt1, hlt2⟩ := hlt
      obtain rfl := hx1 hlt1
      obtain rfl := hx2 hlt2
      have u1 : i < S1.length := by omega
      have u2 : j < S2.length := by omega
      have hbw : Below w2.heap.size w2 wr := hG.out.below
      obtain ⟨q1, q2⟩ := (HR1.out.below hbw (fun k => HR1.out.lt k)) i u1
      obtain ⟨q3, q4⟩ := (HR2.out.below hbw (fun k => HR2.out.lt k)) j u2
      rw [Nat.zero_add] at q1 q2 q3 q4
      have HL : Hid (S1[i].1 ≤ S2[j].1 → MI S1 S2 (i + 1) j (O ++ [S1[i]])) := fun k => hM.out.left HS.out.1 HS.out.2 u1 u2 k
      have HRt : Hid (¬ S1[i].1 ≤ S2[j].1 → MI S1 S2 i (j + 1) (O ++ [S2[j]])) := fun k => hM.out.right HS.out.1 HS.out.2 u1 u2 k
      have hol := hM.out.len
      obtain ⟨x, y, hxy⟩ : ∃ x y, S1[i] = (x, y) := ⟨_, _, rfl⟩
      obtain ⟨z, t, hzt⟩ : ∃ z t, S2[j] = (z, t) := ⟨_, _, rfl⟩
      rw [hxy] at q1 q2 HL HRt
      rw [hzt] at q3 q4 HL HRt
      obtain ⟨p, hp⟩ : ∃ p, h - i = p := ⟨_, rfl⟩
      obtain ⟨q, hq⟩ : ∃ q, m - j = q := ⟨_, rfl⟩
      have s1 : (0 : Int) < (p : Int) := by omega
      have s2 : (0 : Int) < (q : Int) := by omega
      rw [hp] at hka
      rw [hq] at hkb
      rw [hp, hq]
      have HPq : Hid (h - i = p ∧ m - j = q) := ⟨hp, hq⟩
      have e1 : p - 1 = h - (i + 1) := by omega
      have e2 : q - 1 = m - (j + 1) := by omega
      have HE : Hid _ := And.intro e1 e2
      have hp1 : 1 ≤ p := by omega
      have hq1 : 1 ≤ q := by omega
      have hsz : w2.heap.size ≤ wr.heap.size := hG.out.size
      have hol2 : O.length ≤ 4194304 := by omega
      clear hxy hzt e1 e2 hp hq
      by_cases hle : x ≤ z
      · have hMn : Hid _ := HL.out hle
        have d1 : decide (x ≤ z) = true := decide_eq_true hle
        clear HL HRt
        go_wp2_with fail
        go_region
        have hGd := hG.out.drew
        rcases Nat.lt_or_ge 1 ka with kc | kc
        · have kc1 : ¬ ka - 1 = 0 := by omega
          go_wp2_with (at_builtin; refine wpList_append_own _ rfl _ _ 23 rfl w2.heap.size 49 i0 (.agg #[.int .i64 0, .int .u64 0]) 2 16 Try.underlying23 hi hz0 hz1 hz2 rfl (by decide) _ _ _ rfl (hGd.own.alloc _) ⟨_, 0, none⟩ 1 1 [_, _] rfl rfl (cell_two_new _ _ _ _) (two_one x y) (by unfold maxLen; omega) (by omega) (by simp; omega) ?_; intro v' w' hown hgrow hnil; have hg' := hGd.push (x, y) _ hown hgrow; clear hown hgrow hnil)
          go_round
          case rel => exact ⟨i + 1, j, O ++ [(x, y)], i * 2 + 2, j * 2, ka - 1, kb, by omega, by omega, by rw [← HE.out.1], by rw [HPq.out.2], by have := HE.out.1; omega, by rw [HPq.out.2]; exact hkb, fun _ => by omega, fun _ => rfl, hg', hMn⟩
          case measure => simp [slen]; omega
        · obtain rfl : ka = 1 := by omega
          obtain rfl : p = 1 := by omega
          go_wp2_with (at_builtin; refine wpList_append_own _ rfl _ _ 23 rfl w2.heap.size 49 i0 (.agg #[.int .i64 0, .int .u64 0]) 2 16 Try.underlying23 hi hz0 hz1 hz2 rfl (by decide) _ _ _ rfl (hGd.own.alloc _) ⟨_, 0, none⟩ 1 1 [_, _] rfl rfl (cell_two_new _ _ _ _) (two_one x y) (by unfold maxLen; omega) (by omega) (by simp; omega) ?_; intro v' w' hown hgrow hnil; have hg' := hGd.push (x, y) _ hown hgrow; clear hown hgrow hnil)
          go_round
          case rel => exact ⟨i + 1, j, O ++ [(x, y)], i * 2, j * 2, 0, kb, by omega, by omega, by rw [← HE.out.1], by rw [HPq.out.2], by have := HE.out.1; omega, by rw [HPq.out.2]; exact hkb, fun k => by have := HE.out.1; omega, fun _ => rfl, hg', hMn⟩
          case measure => simp [slen]
      · have hMn : Hid _ := HRt.out hle
        have d1 : decide (x ≤ z) = false := decide_eq_false hle
        clear HL HRt
        go_wp2_with fail
        go_region
        have hGd := hG.out.drew
        rcases Nat.lt_or_ge 1 kb with kc | kc
        · have kc1 : ¬ kb - 1 = 0 := by omega
          go_wp2_with (at_builtin; refine wpList_append_own _ rfl _ _ 23 rfl w2.heap.size 49 i0 (.agg #[.int .i64 0, .int .u64 0]) 2 16 Try.underlying23 hi hz0 hz1 hz2 rfl (by decide) _ _ _ rfl (hGd.own.alloc _) ⟨_, 0, none⟩ 1 1 [_, _] rfl rfl (cell_two_new _ _ _ _) (two_one z t) (by unfold maxLen; omega) (by omega) (by simp; omega) ?_; intro v' w' hown hgrow hnil; have hg' := hGd.push (z, t) _ hown hgrow; clear hown hgrow hnil)
          go_round
          case rel => exact ⟨i, j + 1, O ++ [(z, t)], i * 2, j * 2 + 2, ka, kb - 1, by omega, by omega, by rw [HPq.out.1], by rw [← HE.out.2], by rw [HPq.out.1]; exact hka, by have := HE.out.2; omega, fun _ => rfl, fun _ => by omega, hg', hMn⟩
          case measure => simp [slen]; omega
        · obtain rfl : kb = 1 := by omega
          obtain rfl : q = 1 := by omega
          go_wp2_with (at_builtin; refine wpList_append_own _ rfl _ _ 23 rfl w2.heap.size 49 i0 (.agg #[.int .i64 0, .int .u64 0]) 2 16 Try.underlying23 hi hz0 hz1 hz2 rfl (by decide) _ _ _ rfl (hGd.own.alloc _) ⟨_, 0, none⟩ 1 1 [_, _] rfl rfl (cell_two_new _ _ _ _) (two_one z t) (by unfold maxLen; omega) (by omega) (by simp; omega) ?_; intro v' w' hown hgrow hnil; have hg' := hGd.push (z, t) _ hown hgrow; clear hown hgrow hnil)
          go_round
          case rel => exact ⟨i, j + 1, O ++ [(z, t)], i * 2, j * 2, ka, 0, by omega, by omega, by rw [HPq.out.1], by rw [← HE.out.2], by rw [HPq.out.1]; exact hka, by have := HE.out.2; omega, fun _ => rfl, fun k => by have := HE.out.2; omega, hg', hMn⟩
          case measure => simp [slen]
    · have hdone : Hid (S1.drop i = [] ∨ S2.drop j = []) := by
        by_cases k : i < h
        · right; exact List.drop_eq_nil_of_le (by omega)
        · left; exact List.drop_eq_nil_of_le (by omega)
      have HFin : Hid _ := hM.out.fin HS.out.1 HS.out.2 hdone.out
      have hbw : Below w2.heap.size w2 wr := hG.out.below
      have hsz : w2.heap.size ≤ wr.heap.size := hG.out.size
      have hol := hM.out.len
      have HC1 : Hid (∀ j' u, (fl (S1.drop i))[j']? = some u → wr.cell? ((⟨g1, x1, none⟩ : Addr).add j') = some u) := fun j' u hu => by
        by_cases k : i < h
        · obtain rfl := hx1 k
          have := ((HR1.out.below hbw (fun k => HR1.out.lt k)).drop i).cells j' u hu
          rw [Nat.zero_add] at this
          exact this
        · rw [List.drop_eq_nil_of_le (by omega)] at hu; cases hu
      have HC2 : Hid (∀ W, Below w2.heap.size w2 W → ∀ j' u, (fl (S2.drop j))[j']? = some u → W.cell? ((⟨g2, x2, none⟩ : Addr).add j') = some u) := fun W hW j' u hu => by
        by_cases k : j < m
        · obtain rfl := hx2 k
          have := ((HR2.out.below hW (fun k => HR2.out.lt k)).drop j).cells j' u hu
          rw [Nat.zero_add] at this
          exact this
        · rw [List.drop_eq_nil_of_le (by omega)] at hu; cases hu
      have l1 : (S1.drop i).length = h - i := by rw [List.length_drop, hn1]
      have l2 : (S2.drop j).length = m - j := by rw [List.length_drop, hn2]
      have f1 : (fl (S1.drop i)).length = (h - i) * 2 := by rw [fl_length, l1]
      have f2 : (fl (S2.drop j)).length = (m - j) * 2 := by rw [fl_length, l2]
      have F1 : Hid _ := And.intro f1 l1
      have F2 : Hid _ := And.intro f2 l2
      obtain ⟨p, hp⟩ : ∃ p, h - i = p := ⟨_, rfl⟩
      obtain ⟨q, hq⟩ : ∃ q, m - j = q := ⟨_, rfl⟩
      have bp : p ≤ 4194304 := by omega
      have bq : q ≤ 4194304 := by omega
      have bo : O.length ≤ 8388608 := by omega
      have dc : ¬ ((0 : Int) < (p : Int) ∧ (0 : Int) < (q : Int)) := by omega
      rw [hp] at F1
      rw [hq] at F2
      rw [hp, hq]
      clear f1 f2 l1 l2 hp hq hx1 hx2 hol hlt hka hkb
      rcases Nat.eq_zero_or_pos p with p0 | p0
      · subst p0
        go_wp2_with (at_builtin; first
          | (refine wpList_append_own _ rfl _ _ 23 rfl w2.heap.size 49 i0 (.agg #[.int .i64 0, .int .u64 0]) 2 16 Try.underlying23 hi hz0 hz1 hz2 rfl (by decide) _ _ _ rfl hG.out.own ⟨g1, x1, none⟩ 0 _ (fl (S1.drop i)) rfl F1.out.1 HC1.out (fl_one _) (by unfold maxLen; omega) (by omega) hsz ?_; intro v' w' hown hgrow hnil; have hg' := hG.out.grow (ys := S1.drop i) hbw hsz (by rw [F1.out.2]; exact hown) hgrow; clear hown hgrow hnil)
          | (refine wpList_append_own _ rfl _ _ 23 rfl w2.heap.size 49 i0 (.agg #[.int .i64 0, .int .u64 0]) 2 16 Try.underlying23 hi hz0 hz1 hz2 rfl (by decide) _ _ _ rfl hg'.own ⟨g2, x2, none⟩ q _ (fl (S2.drop j)) rfl F2.out.1 (HC2.out _ hg'.below) (fl_one _) (by unfold maxLen; rw [List.length_append, F1.out.2]; omega) (by rw [List.length_append, F1.out.2]; omega) hg'.size ?_; intro v'' w'' hown hgrow hnil; have hg'' := hg'.grow (ys := S2.drop j) hg'.below hg'.size (by rw [F2.out.2]; exact hown) hgrow; clear hown hgrow hnil))
        go_ret
        exact ⟨v'', _, rfl, HFin.out.1, HFin.out.2.trans HP.out, hg''.rebase HB.out⟩
      · obtain rfl : q = 0 := by omega
        have p0' : (0 : Int) < (p : Int) := by omega
        go_wp2_with (at_builtin; first
          | (refine wpList_append_own _ rfl _ _ 23 rfl w2.heap.size 49 i0 (.agg #[.int .i64 0, .int .u64 0]) 2 16 Try.underlying23 hi hz0 hz1 hz2 rfl (by decide) _ _ _ rfl hG.out.own ⟨g1, x1, none⟩ p _ (fl (S1.drop i)) rfl F1.out.1 HC1.out (fl_one _) (by unfold maxLen; omega) (by omega) hsz ?_; intro v' w' hown hgrow hnil; have hg' := hG.out.grow (ys := S1.drop i) hbw hsz (by rw [F1.out.2]; exact hown) hgrow; clear hown hgrow hnil)
          | (refine wpList_append_own _ rfl _ _ 23 rfl w2.heap.size 49 i0 (.agg #[.int .i64 0, .int .u64 0]) 2 16 Try.underlying23 hi hz0 hz1 hz2 rfl (by decide) _ _ _ rfl hg'.own ⟨g2, x2, none⟩ 0 _ (fl (S2.drop j)) rfl F2.out.1 (HC2.out _ hg'.below) (fl_one _) (by unfold maxLen; rw [List.length_append, F1.out.2]; omega) (by rw [List.length_append, F1.out.2]; omega) hg'.size ?_; intro v'' w'' hown hgrow hnil; have hg'' := hg'.grow (ys := S2.drop j) hg'.below hg'.size (by rw [F2.out.2]; exact hown) hgrow; clear hown hgrow hnil))
        go_ret
        exact ⟨v'', _, rfl, HFin.out.1, HFin.out.2.trans HP.out, hg''.rebase HB.out⟩
/-- sorted, whatever it is handed. -/
theorem sorted_any : ∀ (n : Nat) (L : List Cn) (b o cap : Nat) (w : World), L.length ≤ n → L.length ≤ 4194304 → L.length ≤ cap → RowC w b o L → Calls Try.prog 39 #[.slice (some ⟨b, o, none⟩) L.length cap] w fun e w' => Sd w L e w'
  | 0, L, b, o, cap, w, h, _, _, hR => sorted_short b o cap L (by omega) w hR
  | n + 1, L, b, o, cap, w, h, hl, hc, hR => by
    by_cases c : L.length < 2
    · exact sorted_short b o cap L c w hR
    · exact sorted_long b o cap L (by omega) hl hc (fun A b o cap W hA hcA hRA => sorted_any n A b o cap W (by omega) (by omega) hcA hRA) w hR
end Go.Proofs.Ythhoklgfgandpaa
