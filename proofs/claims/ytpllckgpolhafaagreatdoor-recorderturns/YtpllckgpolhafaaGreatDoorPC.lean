/- sorted, the document's. Own work of the verifier. -/
import Derived.Test.YtpllckgpolhafaaGreatDoorPB
namespace Go.Proofs.YtpllckgpolhafaaGreatDoor
open Go.RowKit

/-- What sorted tells. -/
def Sd (W : World) (L : List Cn) (e : Ending) (w' : World) : Prop := ∃ v' S, e = .returned v' ∧ Srt S ∧ S.Perm L ∧ GC W.heap.size W v' S w'
theorem own_nil (w : World) (B : Nat) : w.ownsRow B 149 2 (.slice none 0 0) 0 [] := ⟨rfl, Or.inl ⟨rfl, rfl⟩⟩
theorem srt_short {L : List Cn} (h : L.length < 2) : Srt L := by
  match L, h with
  | [], _ => exact List.Pairwise.nil
  | [c], _ => exact List.pairwise_singleton _ _
theorem gc_of {w w' : World} {v' : Value} {L : List Cn} (hown : w'.ownsRow w.heap.size 149 2 v' (0 + L.length) ([] ++ fl L)) (hg : w.grownBy w' none) : GC w.heap.size w v' L w' := by
  rw [Nat.zero_add, List.nil_append] at hown
  exact ⟨hown, (Below.refl w.heap.size w).grown hg (Nat.le_refl _) (fun k e => by cases e), hg.size⟩
theorem RowC.take {w : World} {b o : Nat} {L : List Cn} (h : RowC w b o L) (k : Nat) : RowC w b o (L.take k) := fun i hi => by
  rw [List.length_take] at hi
  rw [List.getElem_take]
  exact h i (by omega)
theorem RowC.drop {w : World} {b o : Nat} {L : List Cn} (h : RowC w b o L) (k : Nat) : RowC w b (o + k * 2) (L.drop k) := fun i hi => by
  rw [List.length_drop] at hi
  rw [List.getElem_drop]
  have := h (k + i) (by omega)
  rw [show o + (k + i) * 2 = o + k * 2 + i * 2 by omega] at this
  exact this
theorem sd_open {W w' : World} {A : List Cn} {e : Ending} {m : Nat} (h : Sd W A e w') (hm : A.length = m) (h1 : 1 ≤ m) : ∃ g cap S, e = .returned (.slice (some ⟨g, 0, none⟩) m cap) ∧ Srt S ∧ S.Perm A ∧ RowC w' g 0 S ∧ Below W.heap.size W w' ∧ S.length = m ∧ m ≤ cap := by
  obtain ⟨v', S, rfl, hs, hp, hg⟩ := h
  have hl : S.length = m := by rw [hp.length_eq, hm]
  obtain ⟨ao, b, o, cap, rfl, ha, hr⟩ := hg.sc
  rcases hg.own.2 with ⟨k1, k2⟩ | ⟨g, cap', cur, hv, _⟩
  · omega
  · rename_i hrest
    have hcp := hrest.2.2.1
    cases hv
    have hne : S ≠ [] := fun e => by rw [e] at hl; simp at hl; omega
    have := ha hne
    cases this
    rw [hl]
    exact ⟨_, _, S, rfl, hs, hp, hr, hg.below, hl, by omega⟩
/-- The length of a slice. -/
def slen : Value → Nat
  | .slice _ n _ => n
  | _ => 0
/-- What the merging of two rising lists keeps. -/
structure MI (A B : List Cn) (i j : Nat) (O : List Cn) : Prop where
  srt : Srt O
  la : ∀ c ∈ O, ∀ d ∈ A.drop i, c.1 ≤ d.1
  lb : ∀ c ∈ O, ∀ d ∈ B.drop j, c.1 ≤ d.1
  perm : (O ++ (A.drop i ++ B.drop j)).Perm (A ++ B)
  len : O.length = i + j
theorem mi_start (A B : List Cn) : MI A B 0 0 [] := ⟨List.Pairwise.nil, (fun c hc => by cases hc), (fun c hc => by cases hc), by simp, rfl⟩
theorem srt_snoc {O : List Cn} {x : Cn} (h : Srt O) (hx : ∀ c ∈ O, c.1 ≤ x.1) : Srt (O ++ [x]) := List.pairwise_append.2 ⟨h, List.pairwise_singleton _ _, fun a ha b hb => by rw [List.mem_singleton.1 hb]; exact hx a ha⟩
theorem srt_drop_le {A : List Cn} (h : Srt A) {i : Nat} (hi : i < A.length) : ∀ d ∈ A.drop i, A[i].1 ≤ d.1 := by
  rw [List.drop_eq_getElem_cons hi]
  intro d hd
  rcases List.mem_cons.1 hd with rfl | hd
  · exact Int.le_refl _
  · have hp : Srt (A.drop i) := List.Pairwise.sublist (List.drop_sublist _ _) h
    rw [List.drop_eq_getElem_cons hi] at hp
    exact (List.pairwise_cons.1 hp).1 d hd
theorem MI.left {A B O : List Cn} {i j : Nat} (h : MI A B i j O) (hA : Srt A) (hB : Srt B) (hi : i < A.length) (hj : j < B.length) (hle : A[i].1 ≤ B[j].1) : MI A B (i + 1) j (O ++ [A[i]]) := by
  have hm : A[i] ∈ A.drop i := by rw [List.drop_eq_getElem_cons hi]; exact List.mem_cons_self
  refine ⟨srt_snoc h.srt (fun c hc => h.la c hc _ hm), ?_, ?_, ?_, by rw [List.length_append, h.len, List.length_singleton]; omega⟩
  · intro c hc d hd
    have hd' : d ∈ A.drop i := by rw [List.drop_eq_getElem_cons hi]; exact List.mem_cons_of_mem _ hd
    rcases List.mem_append.1 hc with k | k
    · exact h.la c k d hd'
    · rw [List.mem_singleton.1 k]; exact srt_drop_le hA hi d hd'
  · intro c hc d hd
    rcases List.mem_append.1 hc with k | k
    · exact h.lb c k d hd
    · rw [List.mem_singleton.1 k]
      have := srt_drop_le hB hj d hd
      omega
  · have e : O ++ [A[i]] ++ (A.drop (i + 1) ++ B.drop j) = O ++ (A.drop i ++ B.drop j) := by rw [List.drop_eq_getElem_cons hi, List.append_assoc]; rfl
    rw [e]
    exact h.perm
theorem MI.right {A B O : List Cn} {i j : Nat} (h : MI A B i j O) (hA : Srt A) (hB : Srt B) (hi : i < A.length) (hj : j < B.length) (hle : ¬ A[i].1 ≤ B[j].1) : MI A B i (j + 1) (O ++ [B[j]]) := by
  have hm : B[j] ∈ B.drop j := by rw [List.drop_eq_getElem_cons hj]; exact List.mem_cons_self
  refine ⟨srt_snoc h.srt (fun c hc => h.lb c hc _ hm), ?_, ?_, ?_, by rw [List.length_append, h.len, List.length_singleton]; omega⟩
  · intro c hc d hd
    rcases List.mem_append.1 hc with k | k
    · exact h.la c k d hd
    · rw [List.mem_singleton.1 k]
      have := srt_drop_le hA hi d hd
      omega
  · intro c hc d hd
    have hd' : d ∈ B.drop j := by rw [List.drop_eq_getElem_cons hj]; exact List.mem_cons_of_mem _ hd
    rcases List.mem_append.1 hc with k | k
    · exact h.lb c k d hd'
    · rw [List.mem_singleton.1 k]; exact srt_drop_le hB hj d hd'
  · refine List.Perm.trans ?_ h.perm
    rw [List.drop_eq_getElem_cons hj, List.append_assoc]
    refine List.Perm.append_left _ ?_
    rw [List.singleton_append]
    exact List.perm_middle.symm
/-- At the end. -/
theorem MI.fin {A B O : List Cn} {i j : Nat} (h : MI A B i j O) (hA : Srt A) (hB : Srt B) (he : A.drop i = [] ∨ B.drop j = []) : Srt (O ++ A.drop i ++ B.drop j) ∧ (O ++ A.drop i ++ B.drop j).Perm (A ++ B) := by
  refine ⟨?_, by rw [List.append_assoc]; exact h.perm⟩
  have a1 : Srt (A.drop i) := List.Pairwise.sublist (List.drop_sublist _ _) hA
  have b1 : Srt (B.drop j) := List.Pairwise.sublist (List.drop_sublist _ _) hB
  rcases he with e | e
  · rw [e, List.append_nil]
    exact List.pairwise_append.2 ⟨h.srt, b1, h.lb⟩
  · rw [e, List.append_nil]
    exact List.pairwise_append.2 ⟨h.srt, a1, h.la⟩
theorem gc_new (w : World) : GC w.heap.size w (.slice (some ⟨w.heap.size, 0, none⟩) 0 0) [] (w.alloc (.cells #[] 149)) := by
  refine ⟨⟨rfl, .inr ⟨w.heap.size, 0, #[], rfl, Nat.le_refl _, ?_, Nat.le_refl _, by unfold maxLen; omega, rfl, rfl⟩⟩, (Below.refl _ _).alloc (Nat.le_refl _) _, by simp⟩
  show (w.heap.push _)[w.heap.size]? = _
  simp
theorem cell_two_new (w : World) (x y : Value) (t : TypeId) : ∀ j u, [x, y][j]? = some u → (w.alloc (.cells #[x, y] t)).cell? ((⟨w.heap.size, 0, none⟩ : Addr).add j) = some u := by
  intro j u hu
  rw [Addr.add_lit]
  unfold World.cell?
  have hh : (w.alloc (.cells #[x, y] t)).heap[w.heap.size]? = some (.cells #[x, y] t) := by
    show (w.heap.push _)[w.heap.size]? = _
    simp
  rw [hh]
  match j, hu with
  | 0, hu => simpa using hu
  | 1, hu => simpa using hu
  | j + 2, hu => simp at hu
theorem two_one (x : Int) (y : Nat) : ∀ u ∈ [Value.int .i64 x, Value.int .u64 (y : Int)], u.oneCell' = true := by
  intro u hu
  simp at hu
  rcases hu with rfl | rfl <;> rfl
theorem GC.drew {B : Nat} {W0 w : World} {v : Value} {xs : List Cn} (h : GC B W0 v xs w) : GC B W0 v xs w.drew := ⟨h.own, h.below.drew, h.size⟩
theorem GC.grow {B : Nat} {W0 w w1 w' : World} {v v' : Value} {xs ys : List Cn} (h : GC B W0 v xs w) (hb : Below B W0 w1) (hs : B ≤ w1.heap.size) (hown : w'.ownsRow B 149 2 v' (xs.length + ys.length) (fl xs ++ fl ys)) (hg : w1.grownBy w' v.ownBlock) : GC B W0 v' (xs ++ ys) w' := by
  refine ⟨by rw [List.length_append, fl_append]; exact hown, ?_, by have := hg.size; omega⟩
  refine hb.grown hg hs (fun k e => ?_)
  rcases h.own.2 with ⟨rfl, _⟩ | ⟨g, cap, cur, rfl, hB, _⟩
  · cases e
  · cases e; exact hB
theorem GC.push {B : Nat} {W0 w w' : World} {v v' : Value} {xs : List Cn} (h : GC B W0 v xs w) (x : Cn) (ob : Obj) (hown : w'.ownsRow B 149 2 v' (xs.length + 1) (fl xs ++ [.int .i64 x.1, .int .u64 (x.2 : Int)])) (hg : (w.alloc ob).grownBy w' v.ownBlock) : GC B W0 v' (xs ++ [x]) w' :=
  h.grow (ys := [x]) (h.below.alloc h.size _) (by simp; have := h.size; omega) hown hg
theorem GC.rebase {W0 W2 w : World} {v : Value} {xs : List Cn} (h : GC W2.heap.size W2 v xs w) (hb : Below W0.heap.size W0 W2) : GC W0.heap.size W0 v xs w := by
  have hs := hb.size
  refine ⟨⟨h.own.1, ?_⟩, hb.trans (h.below.mono hs), by have := h.size; omega⟩
  rcases h.own.2 with k | ⟨g, cap, cur, hv, hB, hrest⟩
  · exact Or.inl k
  · exact Or.inr ⟨g, cap, cur, hv, by omega, hrest⟩
end Go.Proofs.YtpllckgpolhafaaGreatDoor
/- SORTED, the law's own, of whole numbers. Own work of the verifier. -/
namespace Go.Proofs.YtpllckgpolhafaaGreatDoor
open Go.RowKit

/-- A row of numbers of 64 bits. -/
def RowI (W : World) (b o : Nat) (L : List Int) : Prop := ∀ i (h : i < L.length), W.cell? ⟨b, o + i, none⟩ = some (.int .i64 L[i])
theorem RowI.lt {W : World} {b o : Nat} {L : List Int} (h : RowI W b o L) (hL : L ≠ []) : b < W.heap.size := lt_of_cell (h 0 (List.length_pos_iff.2 hL))
theorem RowI.below {W W1 : World} {b o : Nat} {L : List Int} {B : Nat} (h : RowI W b o L) (hb : Below B W W1) (hB : L ≠ [] → b < B) : RowI W1 b o L := fun i hi => by
  have hne : L ≠ [] := fun e => by rw [e] at hi; simp at hi
  rw [hb.cell (p := ⟨b, o + i, none⟩) (hB hne)]
  exact h i hi
def SrtI (L : List Int) : Prop := L.Pairwise (· ≤ ·)
def fli (L : List Int) : List Value := L.map (Value.int .i64)
theorem fl_length_i (L : List Int) : (fli L).length = L.length * 1 := by unfold fli; rw [List.length_map, Nat.mul_one]
theorem fl_append_i (A B : List Int) : fli (A ++ B) = fli A ++ fli B := List.map_append ..
theorem fl_one_i (L : List Int) : ∀ u ∈ fli L, u.oneCell' = true := fun u hu => by
  obtain ⟨x, _, rfl⟩ := List.mem_map.1 hu
  rfl
theorem RowI.cells {w : World} {b o : Nat} {L : List Int} (h : RowI w b o L) (j : Nat) (u : Value) (hu : (fli L)[j]? = some u) : w.cell? ((⟨b, o, none⟩ : Addr).add j) = some u := by
  unfold fli at hu
  rw [List.getElem?_map] at hu
  rcases Nat.lt_or_ge j L.length with c | c
  · rw [List.getElem?_eq_getElem c] at hu
    rw [Addr.add_lit, h j c]
    exact hu
  · rw [List.getElem?_eq_none c] at hu; cases hu
structure GI (B : Nat) (W0 : World) (v : Value) (xs : List Int) (w : World) : Prop where
  own : w.ownsRow B 2 1 v xs.length (fli xs)
  below : Below B W0 w
  size : B ≤ w.heap.size
theorem infoC_i : (Tryz.prog.info? 2).map (fun i => (i.zero, i.size, i.bytes)) = some (some (.int .i64 0), 1, 8) := by kernel_rfl
def SI (w : World) (v : Value) (L : List Int) : Prop := ∃ ao b o cap, v = .slice ao L.length cap ∧ (L ≠ [] → ao = some ⟨b, o, none⟩) ∧ RowI w b o L
theorem GI.sc {B : Nat} {W0 w : World} {v : Value} {xs : List Int} (h : GI B W0 v xs w) : SI w v xs := by
  obtain ⟨hl, h2⟩ := h.own
  rcases h2 with ⟨rfl, hn⟩ | ⟨g, cap, cur, rfl, hg, hh, hc, hm, hs, ht⟩
  · have : xs = [] := List.length_eq_zero_iff.1 hn
    subst this
    exact ⟨none, 0, 0, 0, rfl, fun k => absurd rfl k, fun i hi => by simp at hi⟩
  · refine ⟨some ⟨g, 0, none⟩, g, 0, cap, rfl, fun _ => rfl, fun i hi => ?_⟩
    have g1 : (fli xs)[i]? = some (.int .i64 xs[i]) := by unfold fli; rw [List.getElem?_map, List.getElem?_eq_getElem hi]; rfl
    rw [← ht] at g1
    rw [List.getElem?_take] at g1
    unfold World.cell?
    rw [hh]
    split at g1
    · simpa using g1
    · cases g1
/-- What sorted tells. -/
def SdI (W : World) (L : List Int) (e : Ending) (w' : World) : Prop := ∃ v' S, e = .returned v' ∧ SrtI S ∧ S.Perm L ∧ GI W.heap.size W v' S w'
theorem own_nil_i (w : World) (B : Nat) : w.ownsRow B 2 1 (.slice none 0 0) 0 [] := ⟨rfl, Or.inl ⟨rfl, rfl⟩⟩
theorem srt_short_i {L : List Int} (h : L.length < 2) : SrtI L := by
  match L, h with
  | [], _ => exact List.Pairwise.nil
  | [c], _ => exact List.pairwise_singleton _ _
theorem gc_of_i {w w' : World} {v' : Value} {L : List Int} (hown : w'.ownsRow w.heap.size 2 1 v' (0 + L.length) ([] ++ fli L)) (hg : w.grownBy w' none) : GI w.heap.size w v' L w' := by
  rw [Nat.zero_add, List.nil_append] at hown
  exact ⟨hown, (Below.refl w.heap.size w).grown hg (Nat.le_refl _) (fun k e => by cases e), hg.size⟩
theorem RowI.take {w : World} {b o : Nat} {L : List Int} (h : RowI w b o L) (k : Nat) : RowI w b o (L.take k) := fun i hi => by
  rw [List.length_take] at hi
  rw [List.getElem_take]
  exact h i (by omega)
theorem RowI.drop {w : World} {b o : Nat} {L : List Int} (h : RowI w b o L) (k : Nat) : RowI w b (o + k) (L.drop k) := fun i hi => by
  rw [List.length_drop] at hi
  rw [List.getElem_drop]
  have := h (k + i) (by omega)
  rw [show o + (k + i) = o + k + i by omega] at this
  exact this
theorem sd_open_i {W w' : World} {A : List Int} {e : Ending} {m : Nat} (h : SdI W A e w') (hm : A.length = m) (h1 : 1 ≤ m) : ∃ g cap S, e = .returned (.slice (some ⟨g, 0, none⟩) m cap) ∧ SrtI S ∧ S.Perm A ∧ RowI w' g 0 S ∧ Below W.heap.size W w' ∧ S.length = m ∧ m ≤ cap := by
  obtain ⟨v', S, rfl, hs, hp, hg⟩ := h
  have hl : S.length = m := by rw [hp.length_eq, hm]
  obtain ⟨ao, b, o, cap, rfl, ha, hr⟩ := hg.sc
  rcases hg.own.2 with ⟨k1, k2⟩ | ⟨g, cap', cur, hv, _⟩
  · omega
  · rename_i hrest
    have hcp := hrest.2.2.1
    cases hv
    have hne : S ≠ [] := fun e => by rw [e] at hl; simp at hl; omega
    have := ha hne
    cases this
    rw [hl]
    exact ⟨_, _, S, rfl, hs, hp, hr, hg.below, hl, by omega⟩
/-- The length of a slice. -/
def slen_i : Value → Nat
  | .slice _ n _ => n
  | _ => 0
/-- What the merging of two rising lists keeps. -/
structure MII (A B : List Int) (i j : Nat) (O : List Int) : Prop where
  srt : SrtI O
  la : ∀ c ∈ O, ∀ d ∈ A.drop i, c ≤ d
  lb : ∀ c ∈ O, ∀ d ∈ B.drop j, c ≤ d
  perm : (O ++ (A.drop i ++ B.drop j)).Perm (A ++ B)
  len : O.length = i + j
theorem mi_start_i (A B : List Int) : MII A B 0 0 [] := ⟨List.Pairwise.nil, (fun c hc => by cases hc), (fun c hc => by cases hc), by simp, rfl⟩
theorem srt_snoc_i {O : List Int} {x : Int} (h : SrtI O) (hx : ∀ c ∈ O, c ≤ x) : SrtI (O ++ [x]) := List.pairwise_append.2 ⟨h, List.pairwise_singleton _ _, fun a ha b hb => by rw [List.mem_singleton.1 hb]; exact hx a ha⟩
theorem srt_drop_le_i {A : List Int} (h : SrtI A) {i : Nat} (hi : i < A.length) : ∀ d ∈ A.drop i, A[i] ≤ d := by
  rw [List.drop_eq_getElem_cons hi]
  intro d hd
  rcases List.mem_cons.1 hd with rfl | hd
  · exact Int.le_refl _
  · have hp : SrtI (A.drop i) := List.Pairwise.sublist (List.drop_sublist _ _) h
    rw [List.drop_eq_getElem_cons hi] at hp
    exact (List.pairwise_cons.1 hp).1 d hd
theorem MII.left {A B O : List Int} {i j : Nat} (h : MII A B i j O) (hA : SrtI A) (hB : SrtI B) (hi : i < A.length) (hj : j < B.length) (hle : A[i] ≤ B[j]) : MII A B (i + 1) j (O ++ [A[i]]) := by
  have hm : A[i] ∈ A.drop i := by rw [List.drop_eq_getElem_cons hi]; exact List.mem_cons_self
  refine ⟨srt_snoc_i h.srt (fun c hc => h.la c hc _ hm), ?_, ?_, ?_, by rw [List.length_append, h.len, List.length_singleton]; omega⟩
  · intro c hc d hd
    have hd' : d ∈ A.drop i := by rw [List.drop_eq_getElem_cons hi]; exact List.mem_cons_of_mem _ hd
    rcases List.mem_append.1 hc with k | k
    · exact h.la c k d hd'
    · rw [List.mem_singleton.1 k]; exact srt_drop_le_i hA hi d hd'
  · intro c hc d hd
    rcases List.mem_append.1 hc with k | k
    · exact h.lb c k d hd
    · rw [List.mem_singleton.1 k]
      have := srt_drop_le_i hB hj d hd
      omega
  · have e : O ++ [A[i]] ++ (A.drop (i + 1) ++ B.drop j) = O ++ (A.drop i ++ B.drop j) := by rw [List.drop_eq_getElem_cons hi, List.append_assoc]; rfl
    rw [e]
    exact h.perm
theorem MII.right {A B O : List Int} {i j : Nat} (h : MII A B i j O) (hA : SrtI A) (hB : SrtI B) (hi : i < A.length) (hj : j < B.length) (hle : ¬ A[i] ≤ B[j]) : MII A B i (j + 1) (O ++ [B[j]]) := by
  have hm : B[j] ∈ B.drop j := by rw [List.drop_eq_getElem_cons hj]; exact List.mem_cons_self
  refine ⟨srt_snoc_i h.srt (fun c hc => h.lb c hc _ hm), ?_, ?_, ?_, by rw [List.length_append, h.len, List.length_singleton]; omega⟩
  · intro c hc d hd
    rcases List.mem_append.1 hc with k | k
    · exact h.la c k d hd
    · rw [List.mem_singleton.1 k]
      have := srt_drop_le_i hA hi d hd
      omega
  · intro c hc d hd
    have hd' : d ∈ B.drop j := by rw [List.drop_eq_getElem_cons hj]; exact List.mem_cons_of_mem _ hd
    rcases List.mem_append.1 hc with k | k
    · exact h.lb c k d hd'
    · rw [List.mem_singleton.1 k]; exact srt_drop_le_i hB hj d hd'
  · refine List.Perm.trans ?_ h.perm
    rw [List.drop_eq_getElem_cons hj, List.append_assoc]
    refine List.Perm.append_left _ ?_
    rw [List.singleton_append]
    exact List.perm_middle.symm
/-- At the end. -/
theorem MII.fin {A B O : List Int} {i j : Nat} (h : MII A B i j O) (hA : SrtI A) (hB : SrtI B) (he : A.drop i = [] ∨ B.drop j = []) : SrtI (O ++ A.drop i ++ B.drop j) ∧ (O ++ A.drop i ++ B.drop j).Perm (A ++ B) := by
  refine ⟨?_, by rw [List.append_assoc]; exact h.perm⟩
  have a1 : SrtI (A.drop i) := List.Pairwise.sublist (List.drop_sublist _ _) hA
  have b1 : SrtI (B.drop j) := List.Pairwise.sublist (List.drop_sublist _ _) hB
  rcases he with e | e
  · rw [e, List.append_nil]
    exact List.pairwise_append.2 ⟨h.srt, b1, h.lb⟩
  · rw [e, List.append_nil]
    exact List.pairwise_append.2 ⟨h.srt, a1, h.la⟩
theorem gc_new_i (w : World) : GI w.heap.size w (.slice (some ⟨w.heap.size, 0, none⟩) 0 0) [] (w.alloc (.cells #[] 2)) := by
  refine ⟨⟨rfl, .inr ⟨w.heap.size, 0, #[], rfl, Nat.le_refl _, ?_, Nat.le_refl _, by unfold maxLen; omega, rfl, rfl⟩⟩, (Below.refl _ _).alloc (Nat.le_refl _) _, by simp⟩
  show (w.heap.push _)[w.heap.size]? = _
  simp
theorem cell_one_new (w : World) (x : Value) (t : TypeId) : ∀ j u, [x][j]? = some u → (w.alloc (.cells #[x] t)).cell? ((⟨w.heap.size, 0, none⟩ : Addr).add j) = some u := by
  intro j u hu
  rw [Addr.add_lit]
  unfold World.cell?
  have hh : (w.alloc (.cells #[x] t)).heap[w.heap.size]? = some (.cells #[x] t) := by
    show (w.heap.push _)[w.heap.size]? = _
    simp
  rw [hh]
  match j, hu with
  | 0, hu => simpa using hu
  | j + 1, hu => simp at hu
theorem one_one (x : Int) : ∀ u ∈ [Value.int .i64 x], u.oneCell' = true := by
  intro u hu
  simp at hu
  rw [hu]
  rfl
theorem GI.drew {B : Nat} {W0 w : World} {v : Value} {xs : List Int} (h : GI B W0 v xs w) : GI B W0 v xs w.drew := ⟨h.own, h.below.drew, h.size⟩
theorem GI.grow {B : Nat} {W0 w w1 w' : World} {v v' : Value} {xs ys : List Int} (h : GI B W0 v xs w) (hb : Below B W0 w1) (hs : B ≤ w1.heap.size) (hown : w'.ownsRow B 2 1 v' (xs.length + ys.length) (fli xs ++ fli ys)) (hg : w1.grownBy w' v.ownBlock) : GI B W0 v' (xs ++ ys) w' := by
  refine ⟨by rw [List.length_append, fl_append_i]; exact hown, ?_, by have := hg.size; omega⟩
  refine hb.grown hg hs (fun k e => ?_)
  rcases h.own.2 with ⟨rfl, _⟩ | ⟨g, cap, cur, rfl, hB, _⟩
  · cases e
  · cases e; exact hB
theorem GI.push {B : Nat} {W0 w w' : World} {v v' : Value} {xs : List Int} (h : GI B W0 v xs w) (x : Int) (ob : Obj) (hown : w'.ownsRow B 2 1 v' (xs.length + 1) (fli xs ++ [.int .i64 x])) (hg : (w.alloc ob).grownBy w' v.ownBlock) : GI B W0 v' (xs ++ [x]) w' :=
  h.grow (ys := [x]) (h.below.alloc h.size _) (by simp; have := h.size; omega) hown hg
theorem GI.rebase {W0 W2 w : World} {v : Value} {xs : List Int} (h : GI W2.heap.size W2 v xs w) (hb : Below W0.heap.size W0 W2) : GI W0.heap.size W0 v xs w := by
  have hs := hb.size
  refine ⟨⟨h.own.1, ?_⟩, hb.trans (h.below.mono hs), by have := h.size; omega⟩
  rcases h.own.2 with k | ⟨g, cap, cur, hv, hB, hrest⟩
  · exact Or.inl k
  · exact Or.inr ⟨g, cap, cur, hv, by omega, hrest⟩
end Go.Proofs.YtpllckgpolhafaaGreatDoor
/- Merge, the document's. Own work of the verifier. -/
namespace Go.Proofs.YtpllckgpolhafaaGreatDoor
open Go.RowKit

/-- What Merge tells. -/
def Md (W : World) (L : List Cn) (e : Ending) (w' : World) : Prop := ∃ v' O, e = .returned v' ∧ IsMerge O L ∧ GC W.heap.size W v' O w'
theorem sd_gen {W w' : World} {L : List Cn} {e : Ending} (h : Sd W L e w') : ∃ ao b o cap S, e = .returned (.slice ao S.length cap) ∧ (S ≠ [] → ao = some ⟨b, o, none⟩) ∧ Srt S ∧ S.Perm L ∧ RowC w' b o S ∧ Below W.heap.size W w' := by
  obtain ⟨v', S, rfl, hs, hp, hg⟩ := h
  obtain ⟨ao, b, o, cap, rfl, ha, hr⟩ := hg.sc
  exact ⟨ao, b, o, cap, S, rfl, ha, hs, hp, hr, hg.below⟩
/-- What lies in memory while a group is summed. -/
structure MC (w3 : World) (gc : Nat) (O : List Cn) (b3 o3 : Nat) (S : List Cn) (x : Int) (N : Nat) (vO : Value) (W : World) : Prop where
  c0 : W.cell? ⟨gc, 0, none⟩ = some (.int .i64 x)
  c1 : W.cell? ⟨gc, 1, none⟩ = some (.int .u64 (N : Int))
  fr : ∀ o, W.frozen? ⟨gc, o, none⟩ = false
  g : GC w3.heap.size w3 vO O W
  r : RowC W b3 o3 S
  ne : ∀ g cap n, vO = .slice (some ⟨g, 0, none⟩) n cap → g ≠ gc
  nb : S ≠ [] → b3 ≠ gc
  le : w3.heap.size ≤ gc
theorem GC.lt {B : Nat} {W0 w : World} {vO : Value} {O : List Cn} (h : GC B W0 vO O w) {g n cap : Nat} (hv : vO = .slice (some ⟨g, 0, none⟩) n cap) : g < w.heap.size := by
  rcases h.own.2 with ⟨k, _⟩ | ⟨g', cap', cur, hv', _, hh, _⟩
  · rw [k] at hv; cases hv
  · rw [hv'] at hv
    cases hv
    rcases Nat.lt_or_ge g w.heap.size with c | c
    · exact c
    · rw [Array.getElem?_eq_none c] at hh; cases hh
theorem GC.alloc {B : Nat} {W0 w : World} {vO : Value} {O : List Cn} (h : GC B W0 vO O w) (ob : Obj) : GC B W0 vO O (w.alloc ob) := ⟨h.own.alloc _, h.below.alloc h.size _, by have := h.size; simp; omega⟩
theorem gc_drewN {B : Nat} {W0 w : World} {v : Value} {xs : List Cn} (h : GC B W0 v xs w) (n : Nat) : GC B W0 v xs (w.drewN n) := by
  induction n with
  | zero => exact h
  | succ n ih => exact ih.drew
theorem mc_new {w3 w : World} {vO : Value} {O : List Cn} {b3 o3 : Nat} {S : List Cn} (hG : GC w3.heap.size w3 vO O w) (hR : RowC w b3 o3 S) (x : Int) : MC w3 w.heap.size O b3 o3 S x 0 vO (w.alloc (.cells #[.int .i64 x, .int .u64 0] 149)) := by
  have hh : (w.alloc (.cells #[.int .i64 x, .int .u64 0] 149)).heap[w.heap.size]? = some (.cells #[.int .i64 x, .int .u64 0] 149) := by
    show (w.heap.push _)[w.heap.size]? = _
    simp
  refine ⟨by simp [go_sem], by simp [go_sem], fun o => by unfold World.frozen?; rw [hh]; simp, hG.alloc _, hR.below ((Below.refl w.heap.size w).alloc (Nat.le_refl _) _) (fun k => hR.lt k), fun g cap n hv => ?_, fun k => ?_, hG.size⟩
  · have := hG.lt hv; omega
  · have := hR.lt k; omega
theorem MC.drew {w3 : World} {gc : Nat} {O : List Cn} {b3 o3 : Nat} {S : List Cn} {x : Int} {N : Nat} {vO : Value} {W : World} (h : MC w3 gc O b3 o3 S x N vO W) : MC w3 gc O b3 o3 S x N vO W.drew := ⟨h.c0, h.c1, h.fr, h.g.drew, h.r, h.ne, h.nb, h.le⟩
theorem MC.store {w3 : World} {gc : Nat} {O : List Cn} {b3 o3 : Nat} {S : List Cn} {x : Int} {N : Nat} {vO : Value} {W : World} (h : MC w3 gc O b3 o3 S x N vO W) (M : Nat) : MC w3 gc O b3 o3 S x M vO (W.setCell ⟨gc, 1, none⟩ (.int .u64 (M : Int))) := by
  refine ⟨?_, World.cell?_setCell_same _ _ _ h.c1, fun o => ?_, ⟨⟨h.g.own.1, ?_⟩, h.g.below.setCell h.le _, by rw [World.size_setCell]; exact h.g.size⟩, fun i hi => ?_, h.ne, h.nb, h.le⟩
  · rw [World.cell?_setCell_other _ _ _ _ (by intro e; cases e)]; exact h.c0
  · rw [World.frozen?_setCell]; exact h.fr o
  · rcases h.g.own.2 with k | ⟨g, cap, cur, hv, hB, hh, hrest⟩
    · exact Or.inl k
    · refine Or.inr ⟨g, cap, cur, hv, hB, ?_, hrest⟩
      rw [Below.heap_setCell _ _ _ _ (h.ne g cap _ hv)]
      exact hh
  · have hne : b3 ≠ gc := h.nb (fun e => by rw [e] at hi; simp at hi)
    rw [World.cell?_setCell_other _ _ _ _ (fun e => hne (congrArg Addr.block e).symm), World.cell?_setCell_other _ _ _ _ (fun e => hne (congrArg Addr.block e).symm)]
    exact h.r i hi
theorem key_cut {S : List Cn} {i : Nat} {x : Int} (hc : Cut S i) (hi : i < S.length) (hx : x = S[i].1) : key (S.take i) x % 18446744073709551616 = 0 := by
  rw [key_none fun c hcm => ?_]
  have := hc c hcm (S[i]) (by rw [List.drop_eq_getElem_cons hi]; exact List.mem_cons_self)
  omega
end Go.Proofs.YtpllckgpolhafaaGreatDoor
/- Merge, the document's, where a list is none. Own work of the verifier. -/
namespace Go.Proofs.YtpllckgpolhafaaGreatDoor
open Go.RowKit

theorem gc_form2 {B : Nat} {W0 w : World} {v : Value} {xs : List Cn} (h : GC B W0 v xs w) : (v = .slice none 0 0 ∧ xs = []) ∨ ∃ g cap, v = .slice (some ⟨g, 0, none⟩) xs.length cap ∧ xs.length ≤ cap := by
  rcases h.own.2 with ⟨k, k2⟩ | ⟨g, cap, cur, hv, _, _, hc, _⟩
  · exact Or.inl ⟨k, List.length_eq_zero_iff.1 k2⟩
  · exact Or.inr ⟨g, cap, hv, hc⟩
theorem gc_form {B : Nat} {W0 w : World} {v : Value} {xs : List Cn} (h : GC B W0 v xs w) : ∃ ao n cap, v = .slice ao n cap := by
  obtain ⟨ao, b, o, cap, h1, _⟩ := h.sc
  exact ⟨ao, _, cap, h1⟩
end Go.Proofs.YtpllckgpolhafaaGreatDoor
