/- A RING THAT GROWS, AND IS WRITTEN OVER: memory. Own work of the verifier. -/
import Derived.Test.YtgkdggcpplmnaaaGreatZBH
import Derived.Deep.AppendLies
import Derived.Deep.RegionHeld3
namespace Go.Proofs.YtgkdggcpplmnaaaGreat.Ri
open Go.RowKit Me

theorem own_block {W : World} {B : Nat} {e : TypeId} {s n p : Nat} {v : Value} {xs : List Value} (h : W.ownsRow B e s v n xs) (hp : v.ownBlock = some p) : ∃ cs z, W.heap[p]? = some (.cells cs e z) := by
  rcases h.2 with ⟨rfl, _⟩ | ⟨g, cap, cur, rfl, _, hg, _⟩
  · cases hp
  · cases hp
    exact ⟨_, _, hg⟩
/-- The blocks of a ring. -/
structure Rh (B b n : Nat) (T : List Int) (R : List Rs) (k : Nat) (tv sv : Value) (W : World) : Prop where
  hd : W.heap[b]? = some (.cells #[.int .i64 (n : Int), tv, sv, .int .i64 (k : Int)] 50 (0, 0))
  ti : W.ownsRow B 2 1 tv T.length (flT T)
  sn : W.ownsRow B 31 3 sv R.length (flS R)
  el : ∀ r ∈ R, OS B r W
  hB : B ≤ b
theorem Rg.rh {B b n k : Nat} {T : List Int} {R : List Rs} {tv sv : Value} {W : World} (h : Rg B b n T R k tv sv W) : Rh B b n T R k tv sv W := ⟨h.hd, h.ti, h.sn, h.el, h.hB⟩
theorem Rh.below {B b n k : Nat} {T : List Int} {R : List Rs} {tv sv : Value} {W W1 : World} (h : Rh B b n T R k tv sv W) (hb : Below W.heap.size W W1) : Rh B b n T R k tv sv W1 := ⟨hkN h.hd hb, own_belG h.ti hb, own_belG h.sn hb, fun r hr => (h.el r hr).below hb, h.hB⟩
theorem Rh.lt {B b n k : Nat} {T : List Int} {R : List Rs} {tv sv : Value} {W : World} (h : Rh B b n T R k tv sv W) : b < W.heap.size := (Array.getElem?_eq_some_iff.1 h.hd).1
theorem ne1 : (2 : TypeId) ≠ 50 := by decide
theorem ne2 : (31 : TypeId) ≠ 50 := by decide
theorem ne3 : (31 : TypeId) ≠ 2 := by decide
theorem t1V : (2 : TypeId) ≠ 45 ∧ (2 : TypeId) ≠ 104 ∧ (2 : TypeId) ≠ 124 := by decide
theorem t3V : (31 : TypeId) ≠ 45 ∧ (31 : TypeId) ≠ 104 ∧ (31 : TypeId) ≠ 124 := by decide
theorem tRV : (50 : TypeId) ≠ 45 ∧ (50 : TypeId) ≠ 104 ∧ (50 : TypeId) ≠ 124 := by decide
theorem chg_set (W : World) (p i : Nat) (u : Value) : Chg (fun y => y = p) W (W.setCell ⟨p, i, none⟩ u) := ⟨rfl, rfl, rfl, by simp, fun k _ hn => Below.heap_setCell _ _ _ _ hn⟩
theorem Rh.fld3 {B b n k : Nat} {T : List Int} {R : List Rs} {tv sv : Value} {W : World} (h : Rh B b n T R k tv sv W) (k' : Nat) : Rh B b n T R k' tv sv (W.setCell ⟨b, 3, none⟩ (.int .i64 (k' : Int))) := by
  refine ⟨?_, own_set h.ti (own_notype h.ti h.hd ne1) _, own_set h.sn (own_notype h.sn h.hd ne2) _, fun r hr => (h.el r hr).chg (chg_set W b 3 _) (fun p e => ?_), h.hB⟩
  · rw [heap_setCell_same _ _ 3 _ _ _ h.hd]; rfl
  · subst e; exact ⟨_, _, _, h.hd, tRV⟩
/-- While the row of times grows all else stays. -/
theorem Rh.grow1 {B b n k : Nat} {T : List Int} {R : List Rs} {tv sv : Value} {W W' : World} (h : Rh B b n T R k tv sv W) (hg : W.grownBy W' tv.ownBlock) : W'.heap[b]? = some (.cells #[.int .i64 (n : Int), tv, sv, .int .i64 (k : Int)] 50 (0, 0)) ∧ W'.ownsRow B 31 3 sv R.length (flS R) ∧ (∀ r, OS B r W → OS B r W') :=
  ⟨(hg.block b h.lt (fun e => own_notype h.ti h.hd ne1 e.symm)).trans h.hd, World.ownsRow.kept h.sn hg (own_apart h.sn h.ti ne3), fun r hr => hr.chg (Chg.of_grown (S := fun p => tv.ownBlock = some p) hg (fun x e => e)) (fun p e => by
    obtain ⟨cs, z, q⟩ := own_block h.ti e
    exact ⟨_, _, _, q, t1V⟩)⟩
theorem Rh.grow2 {B b n k : Nat} {T : List Int} {R : List Rs} {tv sv : Value} {W W' : World} (h : Rh B b n T R k tv sv W) (hg : W.grownBy W' sv.ownBlock) : W'.heap[b]? = some (.cells #[.int .i64 (n : Int), tv, sv, .int .i64 (k : Int)] 50 (0, 0)) ∧ W'.ownsRow B 2 1 tv T.length (flT T) ∧ (∀ r, OS B r W → OS B r W') :=
  ⟨(hg.block b h.lt (fun e => own_notype h.sn h.hd ne2 e.symm)).trans h.hd, World.ownsRow.kept h.ti hg (own_apart h.ti h.sn (fun e => ne3 e.symm)), fun r hr => hr.chg (Chg.of_grown (S := fun p => sv.ownBlock = some p) hg (fun x e => e)) (fun p e => by
    obtain ⟨cs, z, q⟩ := own_block h.sn e
    exact ⟨_, _, _, q, t3V⟩)⟩
theorem own_grown {B : Nat} {w W W' : World} {e : TypeId} {s n : Nat} {v : Value} {xs : List Value} (h : W.ownsRow B e s v n xs) (hb : Below B w W) (hB : B ≤ W.heap.size) (hg : W.grownBy W' v.ownBlock) : Below B w W' := hb.grown hg hB (fun k e => by
  rcases own_atG h with q | ⟨g, q, q1, _⟩
  · rw [q] at e; cases e
  · rw [q] at e; cases e; exact q1)
/-- One more time. -/
theorem Rh.time {B b n k : Nat} {T : List Int} {R : List Rs} {tv sv tv' : Value} {t : Int} {W W' : World} (h : Rh B b n T R k tv sv W) (hown : W'.ownsRow B 2 1 tv' (T.length + 1) (flT T ++ flT [t])) (hg : W.grownBy W' tv.ownBlock) : Rh B b n (T ++ [t]) R k tv' sv (W'.setCell ⟨b, 1, none⟩ tv') := by
  obtain ⟨k1, k2, k3⟩ := h.grow1 hg
  have e : flT (T ++ [t]) = flT T ++ flT [t] := List.map_append
  have hti : W'.ownsRow B 2 1 tv' (T ++ [t]).length (flT (T ++ [t])) := by rw [e, List.length_append]; exact hown
  refine ⟨?_, own_set hti (own_notype hti k1 ne1) _, own_set k2 (own_notype k2 k1 ne2) _, fun r hr => (k3 r (h.el r hr)).chg (chg_set W' b 1 tv') (fun p e => ?_), h.hB⟩
  · rw [heap_setCell_same _ _ 1 _ _ _ k1]; rfl
  · subst e; exact ⟨_, _, _, k1, tRV⟩
/-- One more snapshot. -/
theorem Rh.snap {B b n k : Nat} {T : List Int} {R : List Rs} {tv sv sv' : Value} {r : Rs} {W W' : World} (h : Rh B b n T R k tv sv W) (ho : OS B r W) (hown : W'.ownsRow B 31 3 sv' (R.length + 1) (flS R ++ flS [r])) (hg : W.grownBy W' sv.ownBlock) : Rh B b n T (R ++ [r]) k tv sv' (W'.setCell ⟨b, 2, none⟩ sv') := by
  obtain ⟨k1, k2, k3⟩ := h.grow2 hg
  have hsn : W'.ownsRow B 31 3 sv' (R ++ [r]).length (flS (R ++ [r])) := by rw [flS_append, List.length_append]; exact hown
  refine ⟨?_, own_set k2 (own_notype k2 k1 ne1) _, own_set hsn (own_notype hsn k1 ne2) _, fun q hq => OS.chg (k3 q ?_) (chg_set W' b 2 sv') (fun p e => ?_), h.hB⟩
  · rw [heap_setCell_same _ _ 2 _ _ _ k1]; rfl
  · rcases List.mem_append.1 hq with c | c
    · exact h.el q c
    · rw [List.mem_singleton] at c
      subst c
      exact ho
  · subst e; exact ⟨_, _, _, k1, tRV⟩
theorem infoT : (Tryz.prog.info? 2).map (fun i => (i.zero, i.size, i.bytes)) = some (some (.int .i64 0), 1, 8) := by kernel_rfl
theorem infoS : (Tryz.prog.info? 31).map (fun i => (i.zero, i.size, i.bytes)) = some (some (.agg #[.int .i64 0, .slice none 0 0, .int .u64 0]), 3, 40) := by kernel_rfl
end Go.Proofs.YtgkdggcpplmnaaaGreat.Ri
/- lay, newest, New. Own work of the verifier. -/
namespace Go.Proofs.YtgkdggcpplmnaaaGreat.Ri
open Go.RowKit Me

set_option maxHeartbeats 1000000 in
theorem rnew_any (n : Nat) (h1 : 1 ≤ n) (h2 : n ≤ 256) (w : World) : Calls Tryz.prog 5 #[.int .i64 (n : Int)] w fun e w' => e = .returned (.tuple #[.pointer (some ⟨w.heap.size, 0, none⟩), .int .i64 0]) ∧ w' = w.alloc (.cells #[.int .i64 (n : Int), .slice none 0 0, .slice none 0 0, .int .i64 0] 50) := by
  have c1 : ¬ (n : Int) < 1 := by omega
  have c2 : ¬ (256 : Int) < (n : Int) := by omega
  go_enter Tryz.func5, Tryz.ntmps5
  go_wp2
  simp [bodyPost, results, Tryz.results5, go_sem]
theorem Rg.new (w : World) (n : Nat) (_h1 : 1 ≤ n) (h2 : n ≤ 256) : Rg w.heap.size w.heap.size n [] [] 0 (.slice none 0 0) (.slice none 0 0) (w.alloc (.cells #[.int .i64 (n : Int), .slice none 0 0, .slice none 0 0, .int .i64 0] 50)) :=
  ⟨new_1 _ _, World.ownsRow_nil _ _ _ _, World.ownsRow_nil _ _ _ _, (fun r hr => by cases hr), rfl, Nat.zero_le _, h2, Or.inl rfl, Nat.le_refl _⟩
set_option maxHeartbeats 4000000 in
theorem newest_any (B b n k : Nat) (T : List Int) (R : List Rs) (tv sv : Value) (w : World) (hg : Rg B b n T R k tv sv w) (h0 : 0 < R.length) :
    Calls Tryz.prog 12 #[.pointer (some ⟨b, 0, none⟩)] w fun e w' => e = .returned (.int .i64 (T.getD (plc k (R.length - 1) R.length) 0)) ∧ Below w.heap.size w w' := by
  obtain ⟨tg, tc, sg, sc, ta, sa, rfl, rfl, hR⟩ := hg.rw
  obtain ⟨p, hp⟩ : ∃ p, plc k (R.length - 1) R.length = p := ⟨_, rfl⟩
  have hpl : p < R.length := by rw [← hp]; exact Nat.mod_lt _ h0
  have hpt : p < T.length := by rw [hR.hl]; exact hpl
  obtain ⟨e1, e2⟩ := hR.ho h0
  subst e1 e2
  have hm := hR.hm
  have HL : Hid (∀ W, W.cell? ⟨b, 1, none⟩ = some (.slice (some ⟨tg, 0, none⟩) R.length tc) → Calls Tryz.prog 10 #[.pointer (some ⟨b, 0, none⟩)] W fun e w' => e = .returned (.int .i64 (R.length : Int)) ∧ w' = W) := fun W h => len_any b R.length tc _ W h
  have HP : Hid (∀ W, Rw b T R k tg tc sg sc (some ⟨tg, 0, none⟩) (some ⟨sg, 0, none⟩) W → Calls Tryz.prog 23 #[.pointer (some ⟨b, 0, none⟩), .int .i64 ((R.length - 1 : Nat) : Int)] W fun e w' => e = .returned (.int .i64 (p : Int)) ∧ Below W.heap.size W w') := fun W h => by
    rw [← hp]
    exact h.pl h0 _ (by omega)
  rw [hp, show T.getD p 0 = T[p] by simp [List.getD, hpt]]
  obtain ⟨m, hm1⟩ : ∃ m, R.length - 1 = m := ⟨_, rfl⟩
  have hs : IntKind.i64.wrap ((R.length : Int) - 1) = (m : Int) := by rw [IntKind.wrap_i64]; omega
  rw [hm1] at HP
  have HR := hid_of (hR.below (drew_bel1 w))
  have HB := hid_of (drew_bel1 w)
  have c1 := HR.out.c1
  have hix := index_tm tg R.length tc p (p : Int) rfl hpl
  have ct := HR.out.t p hpt
  go_enter Tryz.func12, Tryz.ntmps12
  go_wp2
  go_region_with (first
    | (go_at_call 10; with_reducible refine (HL.out _ c1).mono ?_; rintro e w1 ⟨rfl, rfl⟩)
    | (go_at_call 23; with_reducible refine (HP.out _ HR.out).mono ?_; rintro e w1 ⟨rfl, hb1⟩; have HB1 := hid_of (bt HB.out hb1); have c1' := cellB hb1 c1; have ct' := cellB hb1 ct))
  all_goals
    go_wp2
    go_ret
    exact ⟨rfl, HB1.out⟩
end Go.Proofs.YtgkdggcpplmnaaaGreat.Ri
