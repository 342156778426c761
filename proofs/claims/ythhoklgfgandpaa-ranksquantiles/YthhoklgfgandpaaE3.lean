/- SORTED, the law's own, of whole numbers. Own work of the verifier. -/
import Derived.Test.YthhoklgfgandpaaE2
import Derived.Test.YthhoklgfgandpaaC9
namespace Go.Proofs.Ythhoklgfgandpaa
open Go.RowKit

/-- A row of numbers of 64 bits. -/
def RowI (W : World) (b o : Nat) (L : List Int) : Prop := ∀ i (h : i < L.length), W.cell? ⟨b, o + i, none⟩ = some (.int .i64 L[i])
theorem RowI.lt {W : World} {b o : Nat} {L : List Int} (h : RowI W b o L) (hL : L ≠ []) : b < W.heap.size := lt_of_cell (h 0 (List.length_pos_iff.2 hL))
theorem RowI.below {W W1 : World} {b o : Nat} {L : List Int} {B : Nat} (h : RowI W b o L) (hb : Below B W W1) (hB : L ≠ [] → b < B) : RowI W1 b o L := fun i hi => by
  have hne : L ≠ [] := fun e => by rw [e] at hi; simp at hi
  rw [hb.cell (p := ⟨b, o + i, none⟩) (hB hne)]
  exact h i hi
def SrtI (L : List Int) : Prop := L.Pairwise (· ≤ ·)
def fli (L : List Int) : List Value := L.map (Value.int .i64)
theorem fl_length_i (L : List Int) : (fli L).length = L.length * 1 := by unfold fli; rw [List.length_map, Nat.mul_one]
theorem fl_append_i (A B : List Int) : fli (A ++ B) = fli A ++ fli B := List.map_append ..
theorem fl_one_i (L : List Int) : ∀ u ∈ fli L, u.oneCell' = true := fun u hu => by
  obtain ⟨x, _, rfl⟩ := List.mem_map.1 hu
  rfl
theorem RowI.cells {w : World} {b o : Nat} {L : List Int} (h : RowI w b o L) (j : Nat) (u : Value) (hu : (fli L)[j]? = some u) : w.cell? ((⟨b, o, none⟩ : Addr).add j) = some u := by
  unfold fli at hu
  rw [List.getElem?_map] at hu
  rcases Nat.lt_or_ge j L.length with c | c
  · rw [List.getElem?_eq_getElem c] at hu
    rw [Addr.add_lit, h j c]
    exact hu
  · rw [List.getElem?_eq_none c] at hu; cases hu
structure GI (B : Nat) (W0 : World) (v : Value) (xs : List Int) (w : World) : Prop where
  own : w.ownsRow B 2 1 v xs.length (fli xs)
  below : Below B W0 w
  size : B ≤ w.heap.size
theorem infoC_i : (Try.prog.info? 2).map (fun i => (i.zero, i.size, i.bytes)) = some (some (.int .i64 0), 1, 8) := by kernel_rfl
def SI (w : World) (v : Value) (L : List Int) : Prop := ∃ ao b o cap, v = .slice ao L.length cap ∧ (L ≠ [] → ao = some ⟨b, o, none⟩) ∧ RowI w b o L
theorem GI.sc {B : Nat} {W0 w : World} {v : Value} {xs : List Int} (h : GI B W0 v xs w) : SI w v xs := by
  obtain ⟨hl, h2⟩ := h.own
  rcases h2 with ⟨rfl, hn⟩ | ⟨g, cap, cur, rfl, hg, hh, hc, hm, hs, ht⟩
  · have : xs = [] := List.length_eq_zero_iff.1 hn
    subst this
    exact ⟨none, 0, 0, 0, rfl, fun k => absurd rfl k, fun i hi => by simp at hi⟩
  · refine ⟨some ⟨g, 0, none⟩, g, 0, cap, rfl, fun _ => rfl, fun i hi => ?_⟩
    have g1 : (fli xs)[i]? = some (.int .i64 xs[i]) := by unfold fli; rw [List.getElem?_map, List.getElem?_eq_getElem hi]; rfl
    rw [← ht] at g1
    rw [List.getElem?_take] at g1
    unfold World.cell?
    rw [hh]
    split at g1
    · simpa using g1
    · cases g1
/-- What sorted tells. -/
def SdI (W : World) (L : List Int) (e : Ending) (w' : World) : Prop := ∃ v' S, e = .returned v' ∧ SrtI S ∧ S.Perm L ∧ GI W.heap.size W v' S w'
theorem own_nil_i (w : World) (B : Nat) : w.ownsRow B 2 1 (.slice none 0 0) 0 [] := ⟨rfl, Or.inl ⟨rfl, rfl⟩⟩
theorem srt_short_i {L : List Int} (h : L.length < 2) : SrtI L := by
  match L, h with
  | [], _ => exact List.Pairwise.nil
  | [c], _ => exact List.pairwise_singleton _ _
theorem gc_of_i {w w' : World} {v' : Value} {L : List Int} (hown : w'.ownsRow w.heap.size 2 1 v' (0 + L.length) ([] ++ fli L)) (hg : w.grownBy w' none) : GI w.heap.size w v' L w' := by
  rw [Nat.zero_add, List.nil_append] at hown
  exact ⟨hown, (Below.refl w.heap.size w).grown hg (Nat.le_refl _) (fun k e => by cases e), hg.size⟩
set_option maxHeartbeats 1000000 in
theorem sorted_short_i (b o cap : Nat) (L : List Int) (hl : L.length < 2) (w : World) (hR : RowI w b o L) :
    Calls Try.prog 24 #[.slice (some ⟨b, o, none⟩) L.length cap] w fun e w' => SdI w L e w' := by
  obtain ⟨i0, hi, hz0, hz1, hz2⟩ := info_parts infoC_i
  have t1 : (L.length : Int) < 2 := by omega
  have HC : Hid _ := hR.cells
  go_enter Try.func24, Try.ntmps24
  go_wp2_with (at_builtin; refine wpList_append_own _ rfl _ _ 40 rfl w.heap.size 2 i0 (.int .i64 0) 1 8 Try.underlying40 hi hz0 hz1 hz2 rfl (by decide) _ _ _ rfl (own_nil_i _ _) ⟨b, o, none⟩ L.length cap (fli L) rfl (fl_length_i L) HC.out (fl_one_i L) (by unfold maxLen; omega) (by omega) (by omega) ?_; intro v' w' hown hgrow hnil)
  go_ret
  exact ⟨v', L, rfl, srt_short_i hl, List.Perm.refl _, gc_of_i hown hgrow⟩
theorem sorted_nil_i (w : World) :
    Calls Try.prog 24 #[.slice none 0 0] w fun e w' => SdI w [] e w' := by
  go_enter Try.func24, Try.ntmps24
  go_wp2_with fail
  go_ret
  exact ⟨_, [], rfl, List.Pairwise.nil, List.Perm.refl _, ⟨own_nil_i _ _, Below.refl _ _, Nat.le_refl _⟩⟩
theorem RowI.take {w : World} {b o : Nat} {L : List Int} (h : RowI w b o L) (k : Nat) : RowI w b o (L.take k) := fun i hi => by
  rw [List.length_take] at hi
  rw [List.getElem_take]
  exact h i (by omega)
theorem RowI.drop {w : World} {b o : Nat} {L : List Int} (h : RowI w b o L) (k : Nat) : RowI w b (o + k) (L.drop k) := fun i hi => by
  rw [List.length_drop] at hi
  rw [List.getElem_drop]
  have := h (k + i) (by omega)
  rw [show o + (k + i) = o + k + i by omega] at this
  exact this
theorem sd_open_i {W w' : World} {A : List Int} {e : Ending} {m : Nat} (h : SdI W A e w') (hm : A.length = m) (h1 : 1 ≤ m) : ∃ g cap S, e = .returned (.slice (some ⟨g, 0, none⟩) m cap) ∧ SrtI S ∧ S.Perm A ∧ RowI w' g 0 S ∧ Below W.heap.size W w' ∧ S.length = m ∧ m ≤ cap := by
  obtain ⟨v', S, rfl, hs, hp, hg⟩ := h
  have hl : S.length = m := by rw [hp.length_eq, hm]
  obtain ⟨ao, b, o, cap, rfl, ha, hr⟩ := hg.sc
  rcases hg.own.2 with ⟨k1, k2⟩ | ⟨g, cap', cur, hv, _⟩
  · omega
  · rename_i hrest
    have hcp := hrest.2.2.1
    cases hv
    have hne : S ≠ [] := fun e => by rw [e] at hl; simp at hl; omega
    have := ha hne
    cases this
    rw [hl]
    exact ⟨_, _, S, rfl, hs, hp, hr, hg.below, hl, by omega⟩
/-- The length of a slice. -/
def slen_i : Value → Nat
  | .slice _ n _ => n
  | _ => 0
/-- What the merging of two rising lists keeps. -/
structure MII (A B : List Int) (i j : Nat) (O : List Int) : Prop where
  srt : SrtI O
  la : ∀ c ∈ O, ∀ d ∈ A.drop i, c ≤ d
  lb : ∀ c ∈ O, ∀ d ∈ B.drop j, c ≤ d
  perm : (O ++ (A.drop i ++ B.drop j)).Perm (A ++ B)
  len : O.length = i + j
theorem mi_start_i (A B : List Int) : MII A B 0 0 [] := ⟨List.Pairwise.nil, (fun c hc => by cases hc), (fun c hc => by cases hc), by simp, rfl⟩
theorem srt_snoc_i {O : List Int} {x : Int} (h : SrtI O) (hx : ∀ c ∈ O, c ≤ x) : SrtI (O ++ [x]) := List.pairwise_append.2 ⟨h, List.pairwise_singleton _ _, fun a ha b hb => by rw [List.mem_singleton.1 hb]; exact hx a ha⟩
theorem srt_drop_le_i {A : List Int} (h : SrtI A) {i : Nat} (hi : i < A.length) : ∀ d ∈ A.drop i, A[i] ≤ d := by
  rw [List.drop_eq_getElem_cons hi]
  intro d hd
  rcases List.mem_cons.1 hd with rfl | hd
  · exact Int.le_refl _
  · have hp : SrtI (A.drop i) := List.Pairwise.sublist (List.drop_sublist _ _) h
    rw [List.drop_eq_getElem_cons hi] at hp
    exact (List.pairwise_cons.1 hp).1 d hd
theorem MII.left {A B O : List Int} {i j : Nat} (h : MII A B i j O) (hA : SrtI A) (hB : SrtI B) (hi : i < A.length) (hj : j < B.length) (hle : A[i] ≤ B[j]) : MII A B (i + 1) j (O ++ [A[i]]) := by
  have hm : A[i] ∈ A.drop i := by rw [List.drop_eq_getElem_cons hi]; exact List.mem_cons_self
  refine ⟨srt_snoc_i h.srt (fun c hc => h.la c hc _ hm), ?_, ?_, ?_, by rw [List.length_append, h.len, List.length_singleton]; omega⟩
  · intro c hc d hd
    have hd' : d ∈ A.drop i := by rw [List.drop_eq_getElem_cons hi]; exact List.mem_cons_of_mem _ hd
    rcases List.mem_append.1 hc with k | k
    · exact h.la c k d hd'
    · rw [List.mem_singleton.1 k]; exact srt_drop_le_i hA hi d hd'
  · intro c hc d hd
    rcases List.mem_append.1 hc with k | k
    · exact h.lb c k d hd
    · rw [List.mem_singleton.1 k]
      have := srt_drop_le_i hB hj d hd
      omega
  · have e : O ++ [A[i]] ++ (A.drop (i + 1) ++ B.drop j) = O ++ (A.drop i ++ B.drop j) := by rw [List.drop_eq_getElem_cons hi, List.append_assoc]; rfl
    rw [e]
    exact h.perm
theorem MII.right {A B O : List Int} {i j : Nat} (h : MII A B i j O) (hA : SrtI A) (hB : SrtI B) (hi : i < A.length) (hj : j < B.length) (hle : ¬ A[i] ≤ B[j]) : MII A B i (j + 1) (O ++ [B[j]]) := by
  have hm : B[j] ∈ B.drop j := by rw [List.drop_eq_getElem_cons hj]; exact List.mem_cons_self
  refine ⟨srt_snoc_i h.srt (fun c hc => h.lb c hc _ hm), ?_, ?_, ?_, by rw [List.length_append, h.len, List.length_singleton]; omega⟩
  · intro c hc d hd
    rcases List.mem_append.1 hc with k | k
    · exact h.la c k d hd
    · rw [List.mem_singleton.1 k]
      have := srt_drop_le_i hA hi d hd
      omega
  · intro c hc d hd
    have hd' : d ∈ B.drop j := by rw [List.drop_eq_getElem_cons hj]; exact List.mem_cons_of_mem _ hd
    rcases List.mem_append.1 hc with k | k
    · exact h.lb c k d hd'
    · rw [List.mem_singleton.1 k]; exact srt_drop_le_i hB hj d hd'
  · refine List.Perm.trans ?_ h.perm
    rw [List.drop_eq_getElem_cons hj, List.append_assoc]
    refine List.Perm.append_left _ ?_
    rw [List.singleton_append]
    exact List.perm_middle.symm
/-- At the end. -/
theorem MII.fin {A B O : List Int} {i j : Nat} (h : MII A B i j O) (hA : SrtI A) (hB : SrtI B) (he : A.drop i = [] ∨ B.drop j = []) : SrtI (O ++ A.drop i ++ B.drop j) ∧ (O ++ A.drop i ++ B.drop j).Perm (A ++ B) := by
  refine ⟨?_, by rw [List.append_assoc]; exact h.perm⟩
  have a1 : SrtI (A.drop i) := List.Pairwise.sublist (List.drop_sublist _ _) hA
  have b1 : SrtI (B.drop j) := List.Pairwise.sublist (List.drop_sublist _ _) hB
  rcases he with e | e
  · rw [e, List.append_nil]
    exact List.pairwise_append.2 ⟨h.srt, b1, h.lb⟩
  · rw [e, List.append_nil]
    exact List.pairwise_append.2 ⟨h.srt, a1, h.la⟩
theorem gc_new_i (w : World) : GI w.heap.size w (.slice (some ⟨w.heap.size, 0, none⟩) 0 0) [] (w.alloc (.cells #[] 2)) := by
  refine ⟨⟨rfl, .inr ⟨w.heap.size, 0, #[], rfl, Nat.le_refl _, ?_, Nat.le_refl _, by unfold maxLen; omega, rfl, rfl⟩⟩, (Below.refl _ _).alloc (Nat.le_refl _) _, by simp⟩
  show (w.heap.push _)[w.heap.size]? = _
  simp
theorem cell_one_new (w : World) (x : Value) (t : TypeId) : ∀ j u, [x][j]? = some u → (w.alloc (.cells #[x] t)).cell? ((⟨w.heap.size, 0, none⟩ : Addr).add j) = some u := by
  intro j u hu
  rw [Addr.add_lit]
  unfold World.cell?
  have hh : (w.alloc (.cells #[x] t)).heap[w.heap.size]? = some (.cells #[x] t) := by
    show (w.heap.push _)[w.heap.size]? = _
    simp
  rw [hh]
  match j, hu with
  | 0, hu => simpa using hu
  | j + 1, hu => simp at hu
theorem one_one (x : Int) : ∀ u ∈ [Value.int .i64 x], u.oneCell' = true := by
  intro u hu
  simp at hu
  rw [hu]
  rfl
theorem GI.drew {B : Nat} {W0 w : World} {v : Value} {xs : List Int} (h : GI B W0 v xs w) : GI B W0 v xs w.drew := ⟨h.own, h.below.drew, h.size⟩
theorem GI.grow {B : Nat} {W0 w w1 w' : World} {v v' : Value} {xs ys : List Int} (h : GI B W0 v xs w) (hb : Below B W0 w1) (hs : B ≤ w1.heap.size) (hown : w'.ownsRow B 2 1 v' (xs.length + ys.length) (fli xs ++ fli ys)) (hg : w1.grownBy w' v.ownBlock) : GI B W0 v' (xs ++ ys) w' := by
  refine ⟨by rw [List.length_append, fl_append_i]; exact hown, ?_, by have := hg.size; omega⟩
  refine hb.grown hg hs (fun k e => ?_)
  rcases h.own.2 with ⟨rfl, _⟩ | ⟨g, cap, cur, rfl, hB, _⟩
  · cases e
  · cases e; exact hB
theorem GI.push {B : Nat} {W0 w w' : World} {v v' : Value} {xs : List Int} (h : GI B W0 v xs w) (x : Int) (ob : Obj) (hown : w'.ownsRow B 2 1 v' (xs.length + 1) (fli xs ++ [.int .i64 x])) (hg : (w.alloc ob).grownBy w' v.ownBlock) : GI B W0 v' (xs ++ [x]) w' :=
  h.grow (ys := [x]) (h.below.alloc h.size _) (by simp; have := h.size; omega) hown hg
theorem GI.rebase {W0 W2 w : World} {v : Value} {xs : List Int} (h : GI W2.heap.size W2 v xs w) (hb : Below W0.heap.size W0 W2) : GI W0.heap.size W0 v xs w := by
  have hs := hb.size
  refine ⟨⟨h.own.1, ?_⟩, hb.trans (h.below.mono hs), by have := h.size; omega⟩
  rcases h.own.2 with k | ⟨g, cap, cur, hv, hB, hrest⟩
  · exact Or.inl k
  · exact Or.inr ⟨g, cap, cur, hv, by omega, hrest⟩
set_option maxRecDepth 10000 in
set_option maxHeartbeats 4000000 in
theorem sorted_long_i (b o cap : Nat) (L : List Int) (hl : 2 ≤ L.length) (hl2 : L.length ≤ 17592186043904) (hcap : L.length ≤ cap) (ih : ∀ (A : List Int) (b o cap : Nat) (W : World), A.length < L.length → A.length ≤ cap → RowI W b o A → Calls Try.prog 24 #[.slice (some ⟨b, o, none⟩) A.length cap] W fun e w' => SdI W A e w') (w : World) (hR : RowI w b o L) :
    Calls Try.prog 24 #[.slice (some ⟨b, o, none⟩) L.length cap] w fun e w' => SdI w L e w' := by
  obtain ⟨i0, hi, hz0, hz1, hz2⟩ := info_parts infoC_i
  have t1 : ¬ (L.length : Int) < 2 := by omega
  obtain ⟨h, hh, h1, h2⟩ : ∃ h : Nat, (L.length : Int) / 2 = (h : Int) ∧ 1 ≤ h ∧ h < L.length := ⟨L.length / 2, by omega, by omega, by omega⟩
  obtain ⟨n, hn⟩ : ∃ n, L.length = n := ⟨_, rfl⟩
  have HI : Hid _ := ih
  have HN : Hid _ := hn
  rw [hn] at hh h2 hl hl2 hcap t1 HI ⊢
  clear ih hn
  have c1 : ¬ (cap : Int) < (h : Int) := by omega
  have c2 : (h : Int) ≤ (n : Int) := by omega
  have H1 : Hid (∀ W, W = w → Calls Try.prog 24 #[.slice (some ⟨b, o, none⟩) h cap] W fun e w' => SdI W (L.take h) e w') := fun W e => by
    have hlen : (L.take h).length = h := by rw [List.length_take, HN.out]; omega
    have := HI.out (L.take h) b o cap W (by rw [hlen]; exact h2) (by rw [hlen]; omega) (by rw [e]; exact hR.take h)
    rw [hlen] at this
    exact this
  have H2 : Hid (∀ W, Below w.heap.size w W → Calls Try.prog 24 #[.slice (some ⟨b, o + h, none⟩) (n - h) (cap - h)] W fun e w' => SdI W (L.drop h) e w') := fun W e => by
    have hlen : (L.drop h).length = n - h := by rw [List.length_drop, HN.out]
    have := HI.out (L.drop h) b (o + h) (cap - h) W (by rw [hlen]; omega) (by rw [hlen]; omega) ((hR.below e (fun k => hR.lt k)).drop h)
    rw [hlen] at this
    exact this
  have hl1 : Hid ((L.take h).length = h ∧ (L.drop h).length = n - h) := ⟨by rw [List.length_take, HN.out]; omega, by rw [List.length_drop, HN.out]⟩
  clear HI
  go_enter Try.func24, Try.ntmps24
  go_wp2_with (first
    | (go_at_call 24; with_reducible refine (H1.out _ rfl).mono ?_; rintro e w1 hsd1; obtain ⟨g1, k1, S1, rfl, hs1, hp1, hr1, hb1, hn1, hk1⟩ := sd_open_i hsd1 hl1.out.1 h1)
    | (go_at_call 24; with_reducible refine (H2.out _ hb1).mono ?_; rintro e w2 hsd2; obtain ⟨g2, k2, S2, rfl, hs2, hp2, hr2, hb2, hn2, hk2⟩ := sd_open_i hsd2 hl1.out.2 (by omega)))
  have hr1' := hr1.below hb2 (fun k => hr1.lt k)
  have HR1 : Hid (RowI w2 g1 0 S1) := hr1'
  have HR2 : Hid (RowI w2 g2 0 S2) := hr2
  have HP : Hid ((S1 ++ S2).Perm L) := by
    have := hp1.append hp2
    rw [List.take_append_drop] at this
    exact this
  have HS : Hid (SrtI S1 ∧ SrtI S2) := ⟨hs1, hs2⟩
  have HB : Hid (Below w.heap.size w w2) := bt hb1 hb2
  obtain ⟨m, hm⟩ : ∃ m, m = n - h := ⟨_, rfl⟩
  rw [← hm] at hn2 hk2 ⊢
  have hm1 : 1 ≤ m := by omega
  have hm2 : h + m ≤ 17592186043904 := by omega
  have HMm : Hid _ := hm
  clear hm
  clear hr1 hr1' hr2 hp1 hp2 hs1 hs2 hb1 hb2 hsd1 hsd2 H1 H2
  go_loopw [3, 4, 5] (fun a c d wr => ∃ (i j : Nat) (O : List Int) (x1 x2 ka kb : Nat), i ≤ h ∧ j ≤ m ∧ a = .slice (some ⟨g1, x1, none⟩) (h - i) ka ∧ c = .slice (some ⟨g2, x2, none⟩) (m - j) kb ∧ h - i ≤ ka ∧ m - j ≤ kb ∧ (i < h → x1 = i) ∧ (j < m → x2 = j) ∧ Hid (GI w2.heap.size w2 d O wr) ∧ Hid (MII S1 S2 i j O)) (fun a c _ _ => slen_i a + slen_i c)
  case atStart => exact ⟨0, 0, [], 0, 0, k1, k2, by omega, by omega, rfl, rfl, by omega, by omega, fun _ => rfl, fun _ => rfl, gc_new_i w2, mi_start_i S1 S2⟩
  case round =>
    obtain ⟨i, j, O, x1, x2, ka, kb, hi1, hj1, rfl, rfl, hka, hkb, hx1, hx2, hG, hM⟩ := hrel
    by_cases hlt : i < h ∧ j < m
    · obtain ⟨hlt1, hlt2⟩ := hlt
      have ex1 := hx1 hlt1
      subst x1
      have ex2 := hx2 hlt2
      subst x2
      have u1 : i < S1.length := by omega
      have u2 : j < S2.length := by omega
      have hbw : Below w2.heap.size w2 wr := hG.out.below
      have q1 := (HR1.out.below hbw (fun k => HR1.out.lt k)) i u1
      have q3 := (HR2.out.below hbw (fun k => HR2.out.lt k)) j u2
      rw [Nat.zero_add] at q1 q3
      have HL : Hid (S1[i] ≤ S2[j] → MII S1 S2 (i + 1) j (O ++ [S1[i]])) := fun k => hM.out.left HS.out.1 HS.out.2 u1 u2 k
      have HRt : Hid (¬ S1[i] ≤ S2[j] → MII S1 S2 i (j + 1) (O ++ [S2[j]])) := fun k => hM.out.right HS.out.1 HS.out.2 u1 u2 k
      have hol := hM.out.len
      obtain ⟨x, hxy⟩ : ∃ x, S1[i] = x := ⟨_, rfl⟩
      obtain ⟨z, hzt⟩ : ∃ z, S2[j] = z := ⟨_, rfl⟩
      rw [hxy] at q1 HL HRt
      rw [hzt] at q3 HL HRt
      obtain ⟨p, hp⟩ : ∃ p, h - i = p := ⟨_, rfl⟩
      obtain ⟨q, hq⟩ : ∃ q, m - j = q := ⟨_, rfl⟩
      have s1 : (0 : Int) < (p : Int) := by omega
      have s2 : (0 : Int) < (q : Int) := by omega
      rw [hp] at hka
      rw [hq] at hkb
      rw [hp, hq]
      have HPq : Hid (h - i = p ∧ m - j = q) := ⟨hp, hq⟩
      have e1 : p - 1 = h - (i + 1) := by omega
      have e2 : q - 1 = m - (j + 1) := by omega
      have HE : Hid _ := And.intro e1 e2
      have hp1 : 1 ≤ p := by omega
      have hq1 : 1 ≤ q := by omega
      have hsz : w2.heap.size ≤ wr.heap.size := hG.out.size
      have hol2 : O.length ≤ 17592186043904 := by omega
      clear hxy hzt e1 e2 hp hq
      by_cases hle : x ≤ z
      · have hMn : Hid _ := HL.out hle
        have d1 : decide (x ≤ z) = true := decide_eq_true hle
        clear HL HRt
        go_wp2_with fail
        go_region
        have hGd := hG.out.drew
        rcases Nat.lt_or_ge 1 ka with kc | kc
        · have kc1 : ¬ ka - 1 = 0 := by omega
          go_wp2_with (at_builtin; refine wpList_append_own _ rfl _ _ 40 rfl w2.heap.size 2 i0 (.int .i64 0) 1 8 Try.underlying40 hi hz0 hz1 hz2 rfl (by decide) _ _ _ rfl (hGd.own.alloc _) ⟨_, 0, none⟩ 1 1 [_] rfl rfl (cell_one_new _ _ _) (one_one x) (by unfold maxLen; omega) (by omega) (by simp; omega) ?_; intro v' w' hown hgrow hnil; have hg' := hGd.push x _ hown hgrow; clear hown hgrow hnil)
          go_round
          case rel => exact ⟨i + 1, j, O ++ [x], i + 1, j, ka - 1, kb, by omega, by omega, by rw [← HE.out.1], by rw [HPq.out.2], by have := HE.out.1; omega, by rw [HPq.out.2]; exact hkb, fun _ => by omega, fun _ => rfl, hg', hMn⟩
          case measure => simp [slen_i]; omega
        · obtain rfl : ka = 1 := by omega
          obtain rfl : p = 1 := by omega
          go_wp2_with (at_builtin; refine wpList_append_own _ rfl _ _ 40 rfl w2.heap.size 2 i0 (.int .i64 0) 1 8 Try.underlying40 hi hz0 hz1 hz2 rfl (by decide) _ _ _ rfl (hGd.own.alloc _) ⟨_, 0, none⟩ 1 1 [_] rfl rfl (cell_one_new _ _ _) (one_one x) (by unfold maxLen; omega) (by omega) (by simp; omega) ?_; intro v' w' hown hgrow hnil; have hg' := hGd.push x _ hown hgrow; clear hown hgrow hnil)
          go_round
          case rel => exact ⟨i + 1, j, O ++ [x], i, j, 0, kb, by omega, by omega, by rw [← HE.out.1], by rw [HPq.out.2], by have := HE.out.1; omega, by rw [HPq.out.2]; exact hkb, fun k => by have := HE.out.1; omega, fun _ => rfl, hg', hMn⟩
          case measure => simp [slen_i]
      · have hMn : Hid _ := HRt.out hle
        have d1 : decide (x ≤ z) = false := decide_eq_false hle
        clear HL HRt
        go_wp2_with fail
        go_region
        have hGd := hG.out.drew
        rcases Nat.lt_or_ge 1 kb with kc | kc
        · have kc1 : ¬ kb - 1 = 0 := by omega
          go_wp2_with (at_builtin; refine wpList_append_own _ rfl _ _ 40 rfl w2.heap.size 2 i0 (.int .i64 0) 1 8 Try.underlying40 hi hz0 hz1 hz2 rfl (by decide) _ _ _ rfl (hGd.own.alloc _) ⟨_, 0, none⟩ 1 1 [_] rfl rfl (cell_one_new _ _ _) (one_one z) (by unfold maxLen; omega) (by omega) (by simp; omega) ?_; intro v' w' hown hgrow hnil; have hg' := hGd.push z _ hown hgrow; clear hown hgrow hnil)
          go_round
          case rel => exact ⟨i, j + 1, O ++ [z], i, j + 1, ka, kb - 1, by omega, by omega, by rw [HPq.out.1], by rw [← HE.out.2], by rw [HPq.out.1]; exact hka, by have := HE.out.2; omega, fun _ => rfl, fun _ => by omega, hg', hMn⟩
          case measure => simp [slen_i]; omega
        · obtain rfl : kb = 1 := by omega
          obtain rfl : q = 1 := by omega
          go_wp2_with (at_builtin; refine wpList_append_own _ rfl _ _ 40 rfl w2.heap.size 2 i0 (.int .i64 0) 1 8 Try.underlying40 hi hz0 hz1 hz2 rfl (by decide) _ _ _ rfl (hGd.own.alloc _) ⟨_, 0, none⟩ 1 1 [_] rfl rfl (cell_one_new _ _ _) (one_one z) (by unfold maxLen; omega) (by omega) (by simp; omega) ?_; intro v' w' hown hgrow hnil; have hg' := hGd.push z _ hown hgrow; clear hown hgrow hnil)
          go_round
          case rel => exact ⟨i, j + 1, O ++ [z], i, j, ka, 0, by omega, by omega, by rw [HPq.out.1], by rw [← HE.out.2], by rw [HPq.out.1]; exact hka, by have := HE.out.2; omega, fun _ => rfl, fun k => by have := HE.out.2; omega, hg', hMn⟩
          case measure => simp [slen_i]
    · have hdone : Hid (S1.drop i = [] ∨ S2.drop j = []) := by
        by_cases k : i < h
        · right; exact List.drop_eq_nil_of_le (by omega)
        · left; exact List.drop_eq_nil_of_le (by omega)
      have HFin : Hid _ := hM.out.fin HS.out.1 HS.out.2 hdone.out
      have hbw : Below w2.heap.size w2 wr := hG.out.below
      have hsz : w2.heap.size ≤ wr.heap.size := hG.out.size
      have hol := hM.out.len
      have HC1 : Hid (∀ j' u, (fli (S1.drop i))[j']? = some u → wr.cell? ((⟨g1, x1, none⟩ : Addr).add j') = some u) := fun j' u hu => by
        by_cases k : i < h
        · have ex1 := hx1 k; subst x1
          have := ((HR1.out.below hbw (fun k => HR1.out.lt k)).drop i).cells j' u hu
          rw [Nat.zero_add] at this
          exact this
        · rw [List.drop_eq_nil_of_le (by omega)] at hu; cases hu
      have HC2 : Hid (∀ W, Below w2.heap.size w2 W → ∀ j' u, (fli (S2.drop j))[j']? = some u → W.cell? ((⟨g2, x2, none⟩ : Addr).add j') = some u) := fun W hW j' u hu => by
        by_cases k : j < m
        · have ex2 := hx2 k; subst x2
          have := ((HR2.out.below hW (fun k => HR2.out.lt k)).drop j).cells j' u hu
          rw [Nat.zero_add] at this
          exact this
        · rw [List.drop_eq_nil_of_le (by omega)] at hu; cases hu
      have l1 : (S1.drop i).length = h - i := by rw [List.length_drop, hn1]
      have l2 : (S2.drop j).length = m - j := by rw [List.length_drop, hn2]
      have f1 : (fli (S1.drop i)).length = (h - i) * 1 := by rw [fl_length_i, l1]
      have f2 : (fli (S2.drop j)).length = (m - j) * 1 := by rw [fl_length_i, l2]
      have F1 : Hid _ := And.intro f1 l1
      have F2 : Hid _ := And.intro f2 l2
      obtain ⟨p, hp⟩ : ∃ p, h - i = p := ⟨_, rfl⟩
      obtain ⟨q, hq⟩ : ∃ q, m - j = q := ⟨_, rfl⟩
      have bp : p ≤ 17592186043904 := by omega
      have bq : q ≤ 17592186043904 := by omega
      have bo : O.length + p + q ≤ 17592186043904 := by omega
      have dc : ¬ ((0 : Int) < (p : Int) ∧ (0 : Int) < (q : Int)) := by omega
      rw [hp] at F1
      rw [hq] at F2
      rw [hp, hq]
      clear f1 f2 l1 l2 hp hq hx1 hx2 hol hlt hka hkb
      rcases Nat.eq_zero_or_pos p with p0 | p0
      · subst p0
        go_wp2_with (at_builtin; first
          | (refine wpList_append_own _ rfl _ _ 40 rfl w2.heap.size 2 i0 (.int .i64 0) 1 8 Try.underlying40 hi hz0 hz1 hz2 rfl (by decide) _ _ _ rfl hG.out.own ⟨g1, x1, none⟩ 0 _ (fli (S1.drop i)) rfl F1.out.1 HC1.out (fl_one_i _) (by unfold maxLen; omega) (by omega) hsz ?_; intro v' w' hown hgrow hnil; have hg' := hG.out.grow (ys := S1.drop i) hbw hsz (by rw [F1.out.2]; exact hown) hgrow; clear hown hgrow hnil)
          | (refine wpList_append_own _ rfl _ _ 40 rfl w2.heap.size 2 i0 (.int .i64 0) 1 8 Try.underlying40 hi hz0 hz1 hz2 rfl (by decide) _ _ _ rfl hg'.own ⟨g2, x2, none⟩ q _ (fli (S2.drop j)) rfl F2.out.1 (HC2.out _ hg'.below) (fl_one_i _) (by unfold maxLen; rw [List.length_append, F1.out.2]; omega) (by rw [List.length_append, F1.out.2]; omega) hg'.size ?_; intro v'' w'' hown hgrow hnil; have hg'' := hg'.grow (ys := S2.drop j) hg'.below hg'.size (by rw [F2.out.2]; exact hown) hgrow; clear hown hgrow hnil))
        go_ret
        exact ⟨v'', _, rfl, HFin.out.1, HFin.out.2.trans HP.out, hg''.rebase HB.out⟩
      · obtain rfl : q = 0 := by omega
        have p0' : (0 : Int) < (p : Int) := by omega
        go_wp2_with (at_builtin; first
          | (refine wpList_append_own _ rfl _ _ 40 rfl w2.heap.size 2 i0 (.int .i64 0) 1 8 Try.underlying40 hi hz0 hz1 hz2 rfl (by decide) _ _ _ rfl hG.out.own ⟨g1, x1, none⟩ p _ (fli (S1.drop i)) rfl F1.out.1 HC1.out (fl_one_i _) (by unfold maxLen; omega) (by omega) hsz ?_; intro v' w' hown hgrow hnil; have hg' := hG.out.grow (ys := S1.drop i) hbw hsz (by rw [F1.out.2]; exact hown) hgrow; clear hown hgrow hnil)
          | (refine wpList_append_own _ rfl _ _ 40 rfl w2.heap.size 2 i0 (.int .i64 0) 1 8 Try.underlying40 hi hz0 hz1 hz2 rfl (by decide) _ _ _ rfl hg'.own ⟨g2, x2, none⟩ 0 _ (fli (S2.drop j)) rfl F2.out.1 (HC2.out _ hg'.below) (fl_one_i _) (by unfold maxLen; rw [List.length_append, F1.out.2]; omega) (by rw [List.length_append, F1.out.2]; omega) hg'.size ?_; intro v'' w'' hown hgrow hnil; have hg'' := hg'.grow (ys := S2.drop j) hg'.below hg'.size (by rw [F2.out.2]; exact hown) hgrow; clear hown hgrow hnil))
        go_ret
        exact ⟨v'', _, rfl, HFin.out.1, HFin.out.2.trans HP.out, hg''.rebase HB.out⟩
/-- sorted, whatever it is handed. -/
theorem sorted_any_i : ∀ (n : Nat) (L : List Int) (b o cap : Nat) (w : World), L.length ≤ n → L.length ≤ 17592186043904 → L.length ≤ cap → RowI w b o L → Calls Try.prog 24 #[.slice (some ⟨b, o, none⟩) L.length cap] w fun e w' => SdI w L e w'
  | 0, L, b, o, cap, w, h, _, _, hR => sorted_short_i b o cap L (by omega) w hR
  | n + 1, L, b, o, cap, w, h, hl, hc, hR => by
    by_cases c : L.length < 2
    · exact sorted_short_i b o cap L c w hR
    · exact sorted_long_i b o cap L (by omega) hl hc (fun A b o cap W hA hcA hRA => sorted_any_i n A b o cap W (by omega) (by omega) hcA hRA) w hR
end Go.Proofs.Ythhoklgfgandpaa
