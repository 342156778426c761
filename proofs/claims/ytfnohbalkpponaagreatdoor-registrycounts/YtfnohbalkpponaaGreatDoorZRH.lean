/- drain: what was active is turned round and emptied. Own work of the verifier. -/
import Derived.Test.YtfnohbalkpponaaGreatDoorZRG
namespace Go.Proofs.YtfnohbalkpponaaGreatDoor
open Go.RowKit Go.Maps

/-- The counts of a part, in memory of one's own. -/
abbrev PvW (w : World) (B : Nat) (x : PV) : Prop := w.ownsRow B 160 2 x.v x.P.L.length (fl x.P.L)
/-- A list of parts in memory of one's own. -/
structure PsW (w : World) (B : Nat) (v : Value) (L : List PV) : Prop where
  row : w.ownsRow B 184 7 v L.length (flP L)
  cnt : ∀ x ∈ L, PvW w B x
theorem PsW.nil (w : World) (B : Nat) : PsW w B (.slice none 0 0) [] := ⟨World.ownsRow_nil _ _ _ _, fun _ hx => by cases hx⟩
theorem ownNe {W : World} {B B' : Nat} {e e' : TypeId} {s s' n n' : Nat} {v v' : Value} {xs xs' : List Value} (h : W.ownsRow B e s v n xs) (h' : W.ownsRow B' e' s' v' n' xs') (hne : e ≠ e') {x : Nat} (hx : v.ownBlock = some x) : ¬ v'.ownBlock = some x := fun k => by
  obtain ⟨cs, hg⟩ := own_blk h hx
  obtain ⟨cs', hg'⟩ := own_blk h' k
  rw [hg] at hg'
  injection hg' with hg'
  injection hg' with _ hg'
  exact hne hg'
theorem PsW.chg {S : Nat → Prop} {w w' : World} {B : Nat} {v : Value} {L : List PV} (h : PsW w B v L) (hc : Chg S w w') (h1 : ∀ x, v.ownBlock = some x → ¬ S x) (h2 : ∀ y ∈ L, ∀ x, y.v.ownBlock = some x → ¬ S x) : PsW w' B v L :=
  ⟨chg_row hc h.row h1, fun x hx => chg_row hc (h.cnt x hx) (h2 x hx)⟩
theorem PsW.below {w w' : World} {B : Nat} {v : Value} {L : List PV} (h : PsW w B v L) (hb : Below w.heap.size w w') : PsW w' B v L := h.chg (Chg.of_below (S := fun _ => False) hb) (fun _ _ k => k) (fun _ _ _ _ k => k)
theorem PsW.push {B : Nat} {v v' : Value} {L : List PV} {x : PV} {W W1 W2 : World} (h : PsW W B v L) (hx : PvW W B x) (hB : B ≤ W.heap.size) (hb : Below W.heap.size W W1)
    (hp : (∃ g cap, v = .slice (some ⟨g, 0, none⟩) L.length cap ∧ v' = .slice (some ⟨g, 0, none⟩) (L.length + 1) cap ∧ W2.ownsRow B 184 7 v' (L.length + 1) (flP L ++ pvC x) ∧ W1.grownBy W2 (some g)) ∨ (W2.ownsRow W1.heap.size 184 7 v' (L.length + 1) (flP L ++ pvC x) ∧ Below W1.heap.size W1 W2)) :
    PsW W2 B v' (L ++ [x]) ∧ Chg (fun y => v.ownBlock = some y) W W2 := by
  have e : flP (L ++ [x]) = flP L ++ pvC x := by rw [flP_app]; simp [flP]
  rcases hp with ⟨g, cap, rfl, rfl, h1, h2⟩ | ⟨h1, h2⟩
  · have hc : Chg (fun y => (Value.slice (some ⟨g, 0, none⟩) L.length cap).ownBlock = some y) W W2 := (Chg.of_below (S := fun y => (Value.slice (some ⟨g, 0, none⟩) L.length cap).ownBlock = some y) hb).trans (chg_grown h2 (fun x hx => by cases hx; rfl)) (fun x hx => Or.inl hx)
    refine ⟨⟨by rw [e]; simpa using h1, fun y hy => ?_⟩, hc⟩
    rcases List.mem_append.1 hy with hy | hy
    · exact chg_row hc (h.cnt y hy) (fun z hz k => ownNe (h.cnt y hy) h.row (by decide) hz k)
    · rw [List.mem_singleton.1 hy]
      exact chg_row hc hx (fun z hz k => ownNe hx h.row (by decide) hz k)
  · have hb2 := bt hb h2
    have hc : Chg (fun y => v.ownBlock = some y) W W2 := Chg.of_below hb2
    have hs : W.heap.size ≤ W1.heap.size := hb.size
    refine ⟨⟨?_, fun y hy => ?_⟩, hc⟩
    · rw [e]
      rcases h1.2 with ⟨k, k2⟩ | ⟨g, cap, cur, k, hb', hg, h3, h4, h5, h6⟩
      · simp at k2
      · exact ⟨by simpa using h1.1, Or.inr ⟨g, cap, cur, by simpa using k, by omega, hg, by simpa using h3, h4, h5, by simpa using h6⟩⟩
    · rcases List.mem_append.1 hy with hy | hy
      · exact chg_row (Chg.of_below (S := fun _ => False) hb2) (h.cnt y hy) (fun _ _ k => k)
      · rw [List.mem_singleton.1 hy]
        exact chg_row (Chg.of_below (S := fun _ => False) hb2) hx (fun _ _ k => k)
/-- The cells of all instruments. -/
structure SlS (R : Rg) (I : List InS) (SL : List SlK) (tt : Nat) (C : Nat → Nat → Nat → List Int) (w : World) : Prop where
  len : SL.length = I.length
  s : ∀ j (hj : j < SL.length) (hj' : j < I.length), SL[j].s = I[j].s ∧ SL[j].kd = I[j].kd
  sl : ∀ j (hj : j < SL.length), SlW SL[j] R.p R.n (C j) w
  rows : ∀ j (hj : j < SL.length), ∀ b, b < 2 → ∀ i, i < R.n → RowOk SL[j].kd R.p tt (C j b i)
  apj : ∀ i j (hi : i < SL.length) (hj : j < SL.length), i ≠ j → ∀ g, g ∈ SL[i].G 0 ++ SL[i].G 1 → ¬ SL[j].Blk g
  tt : tt < 70368744177664
theorem SlS.chg {R : Rg} {I : List InS} {SL : List SlK} {tt : Nat} {C : Nat → Nat → Nat → List Int} {w w' : World} {S : Nat → Prop} (H : SlS R I SL tt C w) (hc : Chg S w w') (hS : ∀ j (hj : j < SL.length) x, SL[j].Blk x → ¬ S x) : SlS R I SL tt C w' := ⟨H.len, H.s, fun j hj => (H.sl j hj).chg hc (hS j hj), H.rows, H.apj, H.tt⟩
theorem SlS.below {R : Rg} {I : List InS} {SL : List SlK} {tt : Nat} {C : Nat → Nat → Nat → List Int} {w w' : World} (H : SlS R I SL tt C w) (hb : Below w.heap.size w w') : SlS R I SL tt C w' := H.chg (Chg.of_below (S := fun _ => False) hb) (fun _ _ _ _ k => k)
/-- A row of a slab. -/
def GB (SL : List SlK) (x : Nat) : Prop := ∃ j, ∃ hj : j < SL.length, x ∈ SL[j].G 0 ++ SL[j].G 1
theorem SlS.not_row {R : Rg} {I : List InS} {SL : List SlK} {tt : Nat} {C : Nat → Nat → Nat → List Int} {w : World} (H : SlS R I SL tt C w) {x : Nat} {cs : Array Value} {T : TypeId} {z : Nat × Nat} (hx : w.heap[x]? = some (.cells cs T z)) (hT : T ≠ 90) : ¬ GB SL x := fun ⟨j, hj, hm⟩ => (H.sl j hj).g.not_row hx hT hm
/-- How far the emptying is. -/
structure DrJ (R : Rg) (SL : List SlK) (C : Nat → Nat → Nat → List Int) (a i : Nat) (w0 : World) (v : Value) (L : List PV) (W : World) : Prop where
  chg : Chg (GB SL) w0 W
  ps : PsW W w0.heap.size v L
  len : L.length = i
  fold : ∀ j (hj : j < L.length) (hj' : j < SL.length), FoldR (fun s => ptF SL[j].kd (C j a s)) R.n L[j].P ∧ L[j].P.Ok 1048576
  sl : ∀ j (hj : j < SL.length), SlW SL[j] R.p R.n (if j < i then upB (C j) a (fun _ => frst SL[j].kd (R.p : Int)) else C j) W
/-- One more is emptied. -/
theorem DrJ.step {R : Rg} {I : List InS} {SL : List SlK} {tt : Nat} {C : Nat → Nat → Nat → List Int} {a i : Nat} {w0 W W1 W2 : World} {v : Value} {L : List PV} (h : DrJ R SL C a i w0 v L W) (H : SlS R I SL tt C w0) (hi : i < SL.length) (hb : Below W.heap.size W W1) {P : Pt} {u : Value} (hF : FoldR (fun s => ptF SL[i].kd (C i a s)) R.n P) (_hO : P.Ok 1048576) (hu : W2.ownsRow W1.heap.size 160 2 u P.L.length (fl P.L)) (hS : SlW SL[i] R.p R.n (upB (C i) a (fun _ => frst SL[i].kd (R.p : Int))) W2) (hc : Chg (fun x => x ∈ SL[i].G 0 ++ SL[i].G 1) W1 W2) :
    PsW W2 w0.heap.size v L ∧ PvW W2 w0.heap.size ⟨P, u⟩ ∧ Chg (GB SL) w0 W2 ∧ (∀ j (hj : j < SL.length), SlW SL[j] R.p R.n (if j < i + 1 then upB (C j) a (fun _ => frst SL[j].kd (R.p : Int)) else C j) W2) := by
  have hsz : w0.heap.size ≤ W1.heap.size := Nat.le_trans h.chg.size hb.size
  have hW1 : ∀ j (hj : j < SL.length), SlW SL[j] R.p R.n (if j < i then upB (C j) a (fun _ => frst SL[j].kd (R.p : Int)) else C j) W1 := fun j hj => (h.sl j hj).below hb
  have hi1 := hW1 i hi
  have nr : ∀ {x : Nat} {cs : Array Value} {T : TypeId} {z : Nat × Nat}, W1.heap[x]? = some (.cells cs T z) → T ≠ 90 → ¬ x ∈ SL[i].G 0 ++ SL[i].G 1 := fun hx hT hm => hi1.g.not_row hx hT hm
  have hps := h.ps.below hb
  refine ⟨hps.chg hc (fun x hx => ?_) (fun y hy x hx => ?_), ?_, ?_, fun j hj => ?_⟩
  · obtain ⟨cs, hg⟩ := own_blk hps.row hx
    exact nr hg (by decide)
  · obtain ⟨cs, hg⟩ := own_blk (hps.cnt y hy) hx
    exact nr hg (by decide)
  · rcases hu.2 with k | ⟨g, cap, cur, k, hb', rest⟩
    · exact ⟨hu.1, Or.inl k⟩
    · exact ⟨hu.1, Or.inr ⟨g, cap, cur, k, by omega, rest⟩⟩
  · exact (h.chg.trans (Chg.of_below (S := GB SL) hb) (fun x e => Or.inl e)).trans (hc.mono (fun x hx => (⟨i, hi, hx⟩ : GB SL x))) (fun x e => Or.inl e)
  · by_cases e : j = i
    · subst e
      rw [if_pos (Nat.lt_succ_self _)]
      exact hS
    · have := (hW1 j hj).chg hc (fun x hx k => H.apj i j hi hj (fun e' => e e'.symm) x k hx)
      by_cases k : j < i
      · rw [if_pos k] at this
        rw [if_pos (by omega)]
        exact this
      · rw [if_neg k] at this
        rw [if_neg (by omega)]
        exact this
end Go.Proofs.YtfnohbalkpponaaGreatDoor
/- drain: the walk. Own work of the verifier. -/
namespace Go.Proofs.YtfnohbalkpponaaGreatDoor
open Go.RowKit Go.Maps

theorem part_cellsX {W : World} {x : PV} {n : Nat} (hn : n = W.heap.size) : ∀ j u, (pvC x)[j]? = some u → (W.alloc (.cells (pvC x).toArray 184)).cell? ((⟨n, 0, none⟩ : Addr).add j) = some u := fun j u hu => by
  subst hn
  have h0 := new_1 W (.cells (pvC x).toArray 184)
  rw [add0]
  unfold World.cell?
  simp only [h0]
  simpa using hu
theorem part_oneX {ao : Option Addr} {k c : Nat} (P : Pt) : ∀ u ∈ pvC ⟨P, .slice ao k c⟩, u.oneCell' = true := fun u hu => by
  simp [pvC] at hu
  rcases hu with rfl | rfl | rfl | rfl | rfl | rfl | rfl <;> rfl
theorem two_c {W : World} {g : Nat} {a b : Value} {T : TypeId} (h : W.heap[g]? = some (.cells #[a, b] T (0, 0))) : W.cell? ⟨g, 0, none⟩ = some a ∧ W.cell? ⟨g, 1, none⟩ = some b := by
  simp [World.cell?, h]
theorem two_f {W : World} {g : Nat} {a b : Value} {T : TypeId} (h : W.heap[g]? = some (.cells #[a, b] T (0, 0))) : W.frozen? ⟨g, 0, none⟩ = false ∧ W.frozen? ⟨g, 1, none⟩ = false := by
  simp [World.frozen?, h]
def rfs (a : Nat) (r0 r1 : Int) : Int := if a = 0 then r0 else r1
def rf0 (a : Nat) (r0 : Int) : Int := if a = 0 then 0 else r0
def rf1 (a : Nat) (r1 : Int) : Int := if a = 1 then 0 else r1
/-- What drain tells and leaves. -/
structure DrnQ (R : Rg) (I : List InS) (SL : List SlK) (C : Nat → Nat → Nat → List Int) (a : Nat) (r0 r1 : Int) (v : Value) (L : List PV) (w w' : World) : Prop where
  ps : PsW w' w.heap.size v L
  len : L.length = SL.length
  fold : ∀ j (hj : j < L.length) (hj' : j < SL.length), FoldR (fun s => ptF SL[j].kd (C j a s)) R.n L[j].P ∧ L[j].P.Ok 1048576
  sl : ∀ j (hj : j < SL.length), SlW SL[j] R.p R.n (upB (C j) a (fun _ => frst SL[j].kd (R.p : Int))) w'
  sh : Sh w' R.k R.ph (1 - a) (rf0 a r0) (rf1 a r1)
  chg : Chg (fun x => GB SL x ∨ x = R.k ∨ x = R.ph) w w'
section
variable {R : Rg} {I : List InS} {nx sv : Nat} {room : Int} {tv : Value} {rf : Int} {SL : List SlK} {tt a m : Nat} {r0 r1 : Int} {neg : Bool} {C : Nat → Nat → Nat → List Int} {w : World}
set_option maxHeartbeats 4000000 in
set_option maxRecDepth 100000 in
theorem drain15 (h : RgH R I nx sv room tv rf w) (HS : SlS R I SL tt C w) (n1 : 0 < R.n) (n2 : R.n ≤ 16) (p1 : 1 ≤ R.p) (p2 : R.p ≤ 14) (ha : a < 2) (hm : m < 9223372036854775808) (hsh : Sh w R.k R.ph a r0 r1) (hpq : Pq w R.ph neg m) (hkp : R.ph ≠ R.k) (hap : ∀ j (hj : j < SL.length) x, SL[j].Blk x → x ≠ R.k ∧ x ≠ R.ph) :
    Calls Tryz.prog 44 #[.pointer (some ⟨R.b, 0, none⟩), .pointer none] w fun e w' => ∃ (v : Value) (L : List PV), e = .returned (.agg #[v, .int .u64 (IntKind.u64.wrap (rfs a r0 r1))]) ∧ Hid (DrnQ R I SL C a r0 r1 v L w w' ∧ Pq w' R.ph (!neg) 0) := by
  have HTn : Hid (∀ o : Obj, Calls Tryz.prog 85 #[.pointer (some ⟨R.k, 0, none⟩), .pointer none] (w.alloc o) fun e w' => e = .returned (.tuple #[.int .i64 (a : Int), .int .i64 0]) ∧ Hid (Sh w' R.k R.ph (1 - a) r0 r1) ∧ Hid (Pq w' R.ph (!neg) 0) ∧ Hid (Chg (fun x => x = R.k ∨ x = R.ph) (w.alloc o) w')) := fun o => by
    refine Calls.mono (turn_any R.k R.ph a r0 r1 neg m ha hm hkp (w.alloc o) (sh_below hsh (bel1 _ _)) (hpq.below (bel1 _ _))) ?_
    rintro e w' ⟨rfl, q1, q2, q3⟩
    obtain ⟨w1, k1, k2⟩ := q3.out
    exact ⟨rfl, q1, q2, (Chg.of_mid k1 (Or.inl rfl : (fun x => x = R.k ∨ x = R.ph) R.k)).trans (Chg.of_mid k2 (Or.inr rfl : (fun x => x = R.k ∨ x = R.ph) R.ph)) (fun x e => Or.inl e)⟩
  have c2 := h.c2
  have hI256 := h.len
  have hkb : R.b ≠ R.k := fun e => rg_ne h hsh (by decide) e.symm
  have hpb : R.b ≠ R.ph := fun e => by
    obtain ⟨s, l0, l1, hp⟩ := hpq.form
    exact rg_ne h hp (by decide) e.symm
  have c2' : ∀ o, (w.alloc o).cell? ⟨R.b, 2, none⟩ = some (.pointer (some ⟨R.k, 0, none⟩)) := fun o => kp c2 (bel1 _ _)
  have hb0 := fun o => bel1 w o
  go_enter Tryz.func44, Tryz.ntmps44
  go_upto_region 2 with (go_at_call 85; with_reducible refine Calls.mono (HTn.out _) ?_; rintro e w0 ⟨rfl, HSh0, HPq0, HCh0⟩)
  have HBx : Hid (w0.heap[w.heap.size]? = some (.cells #[.slice none 0 0, .int .u64 0] 95 (0, 0))) := HCh0.out.at_ (new_1 w _) (fun k => by
    have h1 : R.k < w.heap.size := (Array.getElem?_eq_some_iff.1 hsh).1
    have h2 : R.ph < w.heap.size := hpq.lt
    rcases k with k | k <;> omega)
  have H0 := hidO ((h.below (bel1 w _)).chg HCh0.out (fun k => by rcases k with k | k; exact hkb k; exact hpb k))
  have HSl0 := hidO ((HS.below (bel1 w _)).chg HCh0.out (fun j hj x hx k => by rcases k with k | k; exact (hap j hj x hx).1 k; exact (hap j hj x hx).2 k))
  have HW0 : Hid (Chg (fun x => x = R.k ∨ x = R.ph) w w0) := (Chg.of_below (S := fun x => x = R.k ∨ x = R.ph) (bel1 w _)).trans HCh0.out (fun x e => Or.inl e)
  have HA : Hid (∀ _ : Unit, _) := fun _ => all_any H0.out
  clear HTn c2 c2' hb0 HCh0
  go_upto_region 4 with (go_at_call 70; with_reducible refine Calls.mono (HA.out ()) ?_; rintro e w1 ⟨rfl, HB1⟩)
  have HSl1 := hidO (HSl0.out.below HB1.out)
  have H1 := hidO (H0.out.below HB1.out)
  have hlen := HS.len
  clear HA HSl0 H0
  go_loopw [7, 24] (fun v c W => ∃ (i : Nat) (L : List PV), i ≤ I.length ∧ c = .int .i64 (i : Int) ∧ (∃ x m k, v = .slice x m k) ∧ Hid (DrJ R SL C a i w1 v L W)) (fun _ c _ => I.length - (intOf c).toNat)
  case atStart => exact ⟨0, [], by omega, rfl, ⟨none, 0, 0, rfl⟩, ⟨Chg.refl _ _, PsW.nil _ _, rfl, (fun j hj => absurd hj (Nat.not_lt_zero _)), fun j hj => by rw [if_neg (Nat.not_lt_zero _)]; exact HSl1.out.sl j hj⟩⟩
  case round =>
    obtain ⟨i, L, hi, rfl, ⟨vx, vm, vk, rfl⟩, HJ⟩ := hrel
    by_cases hlt : i < I.length
    · have hlt' : (i : Int) < (I.length : Int) := by omega
      have hiS : i < SL.length := by omega
      have hrb : ¬ GB SL R.b := by
        obtain ⟨cs, z, hb⟩ := H1.out.ty
        exact HSl1.out.not_row hb (by decide)
      have hR := H1.out.chg HJ.out.chg hrb
      obtain ⟨c0, c1, c2, c3, c4⟩ := hR.ins i hlt
      have hsi := HSl1.out.s i hiS hlt
      have HDr : Hid (∀ W, Below wr.heap.size wr W → Calls Tryz.prog 86 #[.pointer (some ⟨I[i].s, 0, none⟩), .pointer none, .int .i64 (a : Int)] W fun e w' => ∃ (P : Pt) (ao : Option Addr) (k cap : Nat), e = .returned (.tuple #[.agg #[.int .i64 P.hi, .int .u64 P.lo, .slice ao k cap, .int .u64 (P.n : Int), .complex .f64 P.s P.c, .float .f64 P.mn, .float .f64 P.mx], .int .i64 0]) ∧ Hid (FoldR (fun s => ptF SL[i].kd (C i a s)) R.n P ∧ P.Ok 1048576 ∧ PsW w' w1.heap.size (.slice vx vm vk) L ∧ PvW w' w1.heap.size ⟨P, .slice ao k cap⟩ ∧ Chg (GB SL) w1 w' ∧ (∀ j (hj : j < SL.length), SlW SL[j] R.p R.n (if j < i + 1 then upB (C j) a (fun _ => frst SL[j].kd (R.p : Int)) else C j) w'))) := fun W hW => by
        have hs := HJ.out.sl i hiS
        rw [if_neg (Nat.lt_irrefl _)] at hs
        rw [← hsi.1]
        refine Calls.mono (drainK (hs.below hW) n2 p1 p2 HS.tt a ha (fun s hs' => HS.rows i hiS a ha s hs')) ?_
        rintro e w' ⟨P, ao, k, cap, rfl, q⟩
        obtain ⟨q1, q2, q3, q4, q5⟩ := q.out
        obtain ⟨s1, s2, s3, s4⟩ := HJ.out.step HSl1.out hiS hW q1 q2 q3 q4 q5
        exact ⟨P, ao, k, cap, rfl, q1, q2, s1, s2, s3, s4⟩
      have hw1 : w1.heap.size ≤ wr.heap.size := HJ.out.chg.size
      clear hR hrb hsi
      generalize I[i] = x at *
      have sF := store_f
      have sC := store_c
      go_upto_region 6 with fail
      go_upto_region 7 with (go_at_call 86; with_reducible refine Calls.mono (HDr.out _ (bel1 _ _)) ?_; rintro e w2 ⟨P, ao, pk, pc, rfl, HP2⟩)
      obtain ⟨i0, hi0, hz0, hz1, hz2⟩ := info_parts infoPart
      have HLl : Hid (L.length ≤ 256) := by have := HJ.out.len; have := h.len; unfold Hid; omega
      go_upto_region 8 with (at_builtin; go_must (refine Po.wpList_append_two _ rfl _ _ 93 rfl w1.heap.size 184 i0 (.agg (pvC PV.nil).toArray) 7 80 Tryz.underlying93 hi0 hz0 hz1 hz2 rfl (.slice vx vm vk) L.length (flP L) rfl ((HP2.out.2.2.1.below (bel1 _ _)).below (bel1 _ _)).row ⟨_, 0, none⟩ 1 1 (pvC ⟨P, .slice ao pk pc⟩) rfl rfl (part_cellsX (x := ⟨P, .slice ao pk pc⟩) (by simp)) (part_oneX _) (by omega) (by have := HLl.out; unfold maxLen; omega) (by have := HLl.out; omega) ?_); intro v' w6 hp6; have HP6 := hidO (HP2.out.2.2.1.push HP2.out.2.2.2.1 HP2.out.2.2.2.2.1.size (bt (bel1 _ _) (bel1 _ _)) hp6); obtain ⟨a6, m6, k6, rfl⟩ := own_sl HP6.out.1.row)
      clear sF sC hi0 hz0 hz1 hz2 HDr hp6
      go_wp2_with fail
      have hch : Chg (GB SL) w1 w6 := HP2.out.2.2.2.2.1.trans HP6.out.2 (fun x hx => Or.inr (own_ge HP2.out.2.2.1.row hx))
      refine ⟨⟨i + 1, L ++ [⟨P, .slice ao pk pc⟩], by omega, congrArg (Value.int .i64) (by omega), ⟨_, _, _, rfl⟩, ⟨hch, HP6.out.1, by have := HJ.out.len; simp; omega, fun j hj hj' => ?_, fun j hj => ?_⟩⟩, by simp [intOf]; omega⟩
      · have hLl := HJ.out.len
        by_cases e : j < L.length
        · rw [List.getElem_append_left e]
          exact HJ.out.fold j e hj'
        · have hj2 : j = L.length := by
            rw [List.length_append, List.length_singleton] at hj
            omega
          have hji : j = i := by omega
          subst hji
          rw [List.getElem_append_right (by omega)]
          simp only [hLl, Nat.sub_self, List.getElem_singleton]
          exact ⟨HP2.out.1, HP2.out.2.1⟩
      · refine (HP2.out.2.2.2.2.2 j hj).chg HP6.out.2 (fun x hx k => ?_)
        have h1 := (HSl1.out.sl j hj).lt n1 hx
        have h2 := own_ge HP2.out.2.2.1.row k
        omega
    · have hi' : i = I.length := by omega
      have hlt' : ¬ (i : Int) < (I.length : Int) := by omega
      have hkr : ¬ GB SL R.k := by
        have : Sh w1 R.k R.ph (1 - a) r0 r1 := sh_below HSh0.out HB1.out
        exact HSl1.out.not_row this (by decide)
      have hpr : ¬ GB SL R.ph := by
        obtain ⟨s, l0, l1, hp⟩ := (HPq0.out.below HB1.out).form
        exact HSl1.out.not_row hp (by decide)
      have hrb : ¬ GB SL R.b := by
        obtain ⟨cs, z, hb⟩ := H1.out.ty
        exact HSl1.out.not_row hb (by decide)
      have hSh : Sh wr R.k R.ph (1 - a) r0 r1 := HJ.out.chg.Sh (sh_below HSh0.out HB1.out) hkr
      have HPq1 := hidO (HJ.out.chg.Pq (HPq0.out.below HB1.out) hpr)
      have c2 := (H1.out.chg HJ.out.chg hrb).c2
      have hbx1 := (HB1.out.block _ (Array.getElem?_eq_some_iff.1 HBx.out).1).trans HBx.out
      have HBr := hidO (HJ.out.chg.at_ hbx1 (HSl1.out.not_row hbx1 (by decide)))
      have HRf : Hid (∀ _ : Unit, Calls Tryz.prog 87 #[.pointer (some ⟨R.k, 0, none⟩), .pointer none, .int .i64 (a : Int)] wr fun e w' => e = .returned (.int .u64 (IntKind.u64.wrap (rfs a r0 r1))) ∧ Hid (Sh w' R.k R.ph (1 - a) (rf0 a r0) (rf1 a r1)) ∧ Hid (Chg (fun x => x = R.k) wr w')) := fun _ => by
        have h01 : a = 0 ∨ a = 1 := by omega
        rcases h01 with rfl | rfl
        · refine Calls.mono (refused_0 R.k R.ph 1 r0 r1 wr hSh) ?_
          rintro e w' ⟨rfl, q1, q2⟩
          exact ⟨rfl, q1, Chg.of_mid q2.out rfl⟩
        · refine Calls.mono (refused_1 R.k R.ph 0 r0 r1 wr hSh) ?_
          rintro e w' ⟨rfl, q1, q2⟩
          exact ⟨rfl, q1, Chg.of_mid q2.out rfl⟩
      generalize hru : IntKind.u64.wrap (rfs a r0 r1) = ru at *
      have HRu := hidO hru
      clear hru
      clear hkr hpr hrb hSh hbx1
      have HBq : Hid (∀ W, Chg (fun x => x = R.k) wr W → W.heap[w.heap.size]? = some (.cells #[.slice none 0 0, .int .u64 0] 95 (0, 0))) := fun W hW => hW.at_ HBr.out (by have h1 : R.k < w.heap.size := (Array.getElem?_eq_some_iff.1 hsh).1; omega)
      go_wp2_with (go_at_call 87; with_reducible refine Calls.mono (HRf.out ()) ?_; rintro e w7 ⟨rfl, HSh7, HC7⟩; have HB7 := hidO (HBq.out _ HC7.out); obtain ⟨e0, e1⟩ := two_c HB7.out; obtain ⟨g0, g1⟩ := two_f HB7.out)
      have hw2 : ((w7.setCell ⟨w.heap.size, 0, none⟩ (.slice vx vm vk)).setCell ⟨w.heap.size, 1, none⟩ (.int .u64 ru)).heap[w.heap.size]? = some (.cells #[.slice vx vm vk, .int .u64 ru] 95 (0, 0)) := by
        rw [heap_setCell_same _ _ 1 _ _ _ (heap_setCell_same _ _ 0 _ _ _ HB7.out)]
        rfl
      have hc8 : Chg (fun x => x = w.heap.size) w7 ((w7.setCell ⟨w.heap.size, 0, none⟩ (.slice vx vm vk)).setCell ⟨w.heap.size, 1, none⟩ (.int .u64 ru)) := chg_s (chg_s (Chg.refl _ _) _ _) _ _
      generalize (w7.setCell ⟨w.heap.size, 0, none⟩ (.slice vx vm vk)).setCell ⟨w.heap.size, 1, none⟩ (.int .u64 ru) = w8 at *
      refine bodyPost_ret (results_cell_row (P := Tryz.prog) rfl _ _ w.heap.size 95 _ (0, 0) _ rfl hw2 Tryz.underlying95 rfl (by kernel_rfl)) rfl ?_
      have hru := HRu.out
      have hk1 : R.k < w.heap.size := (Array.getElem?_eq_some_iff.1 hsh).1
      have hp1 : R.ph < w.heap.size := hpq.lt
      have hsw : w.heap.size < w1.heap.size := by
        have := (Array.getElem?_eq_some_iff.1 HBx.out).1
        have := HB1.out.size
        omega
      have hc78 : Chg (fun x => x = R.k ∨ x = w.heap.size) wr w8 := (HC7.out.mono (fun x e => (Or.inl e : x = R.k ∨ x = w.heap.size))).trans hc8 (fun x e => Or.inl (Or.inr e))
      refine ⟨.slice vx vm vk, L, by rw [hru], ⟨⟨?_, ?_, fun j hj hj' => HJ.out.fold j hj hj', fun j hj => ?_, ?_, ?_⟩, ?_⟩⟩
      · have h1 := HJ.out.ps.chg hc78 (fun x hx k => by
          have := own_ge HJ.out.ps.row hx
          rcases k with k | k <;> omega) (fun y hy x hx k => by
          have := own_ge (HJ.out.ps.cnt y hy) hx
          rcases k with k | k <;> omega)
        exact ⟨own_leT h1.row (by omega), fun y hy => own_leT (h1.cnt y hy) (by omega)⟩
      · rw [HJ.out.len]; omega
      · have := HJ.out.sl j hj
        rw [if_pos (by omega)] at this
        refine this.chg hc78 (fun x hx k => ?_)
        rcases k with k | k
        · exact (hap j hj x hx).1 k
        · have h2 := (HS.sl j hj).lt n1 hx
          omega
      · exact hc8.Sh HSh7.out (by show ¬ R.k = w.heap.size; omega)
      · refine (((HW0.out.mono (fun x e => (Or.inr e : GB SL x ∨ x = R.k ∨ x = R.ph))).trans (Chg.of_below (S := fun x => GB SL x ∨ x = R.k ∨ x = R.ph) HB1.out) (fun x e => Or.inl e)).trans (HJ.out.chg.mono (fun x e => (Or.inl e : GB SL x ∨ x = R.k ∨ x = R.ph))) (fun x e => Or.inl e)).trans hc78 (fun x e => ?_)
        rcases e with e | e
        · exact Or.inl (Or.inr (Or.inl e))
        · exact Or.inr (by omega)
      · exact hc78.Pq HPq1.out (fun k => by rcases k with k | k; exact hkp k; omega)
end
end Go.Proofs.YtfnohbalkpponaaGreatDoor
/- keep: the totals have what was drained. Own work of the verifier. -/
namespace Go.Proofs.YtfnohbalkpponaaGreatDoor
open Go.RowKit Go.Maps

theorem flP_get (L : List PV) (i : Nat) (h : i < L.length) (j : Nat) (hj : j < 7) : (flP L)[i * 7 + j]? = (pvC L[i])[j]? := by
  induction L generalizing i with
  | nil => simp at h
  | cons x L ih =>
    cases i with
    | zero =>
      show (pvC x ++ flP L)[0 * 7 + j]? = (pvC x)[j]?
      rw [List.getElem?_append_left (by simp [pvC]; omega)]
      congr 1
      omega
    | succ i =>
      have h' : i < L.length := by simpa using h
      show (pvC x ++ flP L)[(i + 1) * 7 + j]? = (pvC L[i])[j]?
      rw [List.getElem?_append_right (by simp [pvC]; omega), ← ih i h']
      congr 1
      simp [pvC]
      omega
theorem flP_set (L : List PV) (i : Nat) (h : i < L.length) (y : PV) : (((((((flP L).set (i * 7) (.int .i64 y.P.hi)).set (i * 7 + 1) (.int .u64 y.P.lo)).set (i * 7 + 2) y.v).set (i * 7 + 3) (.int .u64 (y.P.n : Int))).set (i * 7 + 4) (.complex .f64 y.P.s y.P.c)).set (i * 7 + 5) (.float .f64 y.P.mn)).set (i * 7 + 6) (.float .f64 y.P.mx) = flP (L.set i y) := by
  induction L generalizing i with
  | nil => simp at h
  | cons x L ih =>
    cases i with
    | zero => rfl
    | succ i =>
      have h' : i < L.length := by simpa using h
      have e : ∀ (M : List Value) (k : Nat) (u : Value), (pvC x ++ M).set ((i + 1) * 7 + k) u = pvC x ++ M.set (i * 7 + k) u := fun M k u => by
        rw [List.set_append_right _ _ (by simp [pvC]; omega)]
        congr 2
        simp [pvC]
        omega
      have e0 := fun (M : List Value) (u : Value) => e M 0 u
      simp only [Nat.add_zero] at e0
      show ((((((((pvC x ++ flP L).set ((i + 1) * 7) _).set ((i + 1) * 7 + 1) _).set ((i + 1) * 7 + 2) _).set ((i + 1) * 7 + 3) _).set ((i + 1) * 7 + 4) _).set ((i + 1) * 7 + 5) _).set ((i + 1) * 7 + 6) _) = pvC x ++ flP (L.set i y)
      rw [e0, e, e, e, e, e, e, ih i h']
/-- Seven cells are stored. -/
def put7P (W : World) (g o : Nat) (y : PV) : World := ((((((W.setCell ⟨g, o, none⟩ (.int .i64 y.P.hi)).setCell ⟨g, o + 1, none⟩ (.int .u64 y.P.lo)).setCell ⟨g, o + 2, none⟩ y.v).setCell ⟨g, o + 3, none⟩ (.int .u64 (y.P.n : Int))).setCell ⟨g, o + 4, none⟩ (.complex .f64 y.P.s y.P.c)).setCell ⟨g, o + 5, none⟩ (.float .f64 y.P.mn)).setCell ⟨g, o + 6, none⟩ (.float .f64 y.P.mx)
theorem put7P_own {W : World} {B g n cap : Nat} {L : List PV} (h : W.ownsRow B 184 7 (.slice (some ⟨g, 0, none⟩) n cap) n (flP L)) (i : Nat) (hi : i < L.length) (y : PV) : (put7P W g (i * 7) y).ownsRow B 184 7 (.slice (some ⟨g, 0, none⟩) n cap) n (flP (L.set i y)) ∧ Chg (fun x => x = g) W (put7P W g (i * 7) y) := by
  obtain ⟨s1, g1⟩ := h.stored (i * 7) (.int .i64 y.P.hi)
  obtain ⟨s2, g2⟩ := s1.stored (i * 7 + 1) (.int .u64 y.P.lo)
  obtain ⟨s3, g3⟩ := s2.stored (i * 7 + 2) y.v
  obtain ⟨s4, g4⟩ := s3.stored (i * 7 + 3) (.int .u64 (y.P.n : Int))
  obtain ⟨s5, g5⟩ := s4.stored (i * 7 + 4) (.complex .f64 y.P.s y.P.c)
  obtain ⟨s6, g6⟩ := s5.stored (i * 7 + 5) (.float .f64 y.P.mn)
  obtain ⟨s7, g7⟩ := s6.stored (i * 7 + 6) (.float .f64 y.P.mx)
  rw [flP_set L i hi y] at s7
  exact ⟨s7, chg_s (chg_s (chg_s (chg_s (chg_s (chg_s (chg_s (Chg.refl _ _) _ _) _ _) _ _) _ _) _ _) _ _) _ _⟩
theorem own_cells7 {W : World} {B g n cap : Nat} {L : List PV} (h : W.ownsRow B 184 7 (.slice (some ⟨g, 0, none⟩) n cap) n (flP L)) (i : Nat) (hi : i < L.length) : (W.cell? ⟨g, i * 7, none⟩ = some (.int .i64 L[i].P.hi) ∧ W.cell? ⟨g, i * 7 + 1, none⟩ = some (.int .u64 L[i].P.lo) ∧ W.cell? ⟨g, i * 7 + 2, none⟩ = some L[i].v ∧ W.cell? ⟨g, i * 7 + 3, none⟩ = some (.int .u64 (L[i].P.n : Int)) ∧ W.cell? ⟨g, i * 7 + 4, none⟩ = some (.complex .f64 L[i].P.s L[i].P.c) ∧ W.cell? ⟨g, i * 7 + 5, none⟩ = some (.float .f64 L[i].P.mn) ∧ W.cell? ⟨g, i * 7 + 6, none⟩ = some (.float .f64 L[i].P.mx)) ∧ ∀ o, W.frozen? ⟨g, o, none⟩ = false := by
  rcases h.2 with ⟨k, _⟩ | ⟨g', cap', cur, k, hb, hg, h3, h4, h5, h6⟩
  · cases k
  · injection k with k1 k2 k3
    injection k1 with k1
    injection k1 with k1
    subst k1
    have hlen := flP_len L
    have hn : n = L.length := by have := h.1; omega
    have e : ∀ j, j < 7 → W.cell? ⟨g, i * 7 + j, none⟩ = (pvC L[i])[j]? := fun j hj => by
      rw [← flP_get L i hi j hj, ← h6, List.getElem?_take, if_pos (by omega)]
      unfold World.cell?
      simp only [hg]
      simp
    exact ⟨⟨e 0 (by decide), e 1 (by decide), e 2 (by decide), e 3 (by decide), e 4 (by decide), e 5 (by decide), e 6 (by decide)⟩, fun o => by simp [World.frozen?, hg]⟩
end Go.Proofs.YtfnohbalkpponaaGreatDoor
/- keep: the walk. Own work of the verifier. -/
namespace Go.Proofs.YtfnohbalkpponaaGreatDoor
open Go.RowKit Go.Maps

/-- How far the keeping is. -/
structure KpI (tv : Value) (TP L : List PV) (i : Nat) (w0 : World) (M : List PV) (W : World) : Prop where
  ps : PsW W 0 tv M
  len : M.length = TP.length
  done : ∀ j (h1 : j < TP.length) (h2 : j < L.length) (h3 : j < M.length), j < i → MrgR TP[j].P L[j].P M[j].P
  rest : ∀ j (h1 : j < TP.length) (h3 : j < M.length), i ≤ j → M[j] = TP[j]
  ok : ∀ x ∈ M, x.P.Ok 1048576
  chg : Chg (fun x => tv.ownBlock = some x) w0 W
/-- What keep leaves. -/
structure KpQ (R : Rg) (I : List InS) (nx sv : Nat) (room : Int) (tv : Value) (rf ru : Int) (TP L : List PV) (M : List PV) (w w' : World) : Prop where
  rg : RgH R I nx sv room tv (IntKind.u64.wrap (rf + ru)) w'
  ps : PsW w' 0 tv M
  len : M.length = TP.length
  mrg : ∀ j (h1 : j < TP.length) (h2 : j < L.length) (h3 : j < M.length), MrgR TP[j].P L[j].P M[j].P
  ok : ∀ x ∈ M, x.P.Ok 1048576
  chg : Chg (fun x => x = R.b ∨ tv.ownBlock = some x) w w'
theorem own_snB {W : World} {B : Nat} {v : Value} {L : List Cn} (h : W.ownsRow B 160 2 v L.length (fl L)) : SN W v L := own_sn (own_leT h (Nat.zero_le B)) (Nat.zero_le _)
theorem frKp {W W' : World} {g o0 : Nat} {u : Value} (hc : W.cell? ⟨g, o0, none⟩ = some u) (hf : ∀ o, W.frozen? ⟨g, o, none⟩ = false) (hb : Below W.heap.size W W') (o : Nat) : W'.frozen? ⟨g, o, none⟩ = false := by
  have := hf o
  unfold World.frozen? at this ⊢
  have e : W'.heap[g]? = W.heap[g]? := hb.block g (lt_of_cell hc)
  simp only [e]
  exact this
theorem bel_dr {B : Nat} {a b : World} (h : Below B a b) : Below B a b.drew := ⟨h.os, h.tape, h.output, h.size, h.block⟩
theorem seven_c {W : World} {g : Nat} {a b c d e f h : Value} {T : TypeId} (hg : W.heap[g]? = some (.cells #[a, b, c, d, e, f, h] T (0, 0))) : W.cell? ⟨g, 0, none⟩ = some a ∧ W.cell? ⟨g, 1, none⟩ = some b ∧ W.cell? ⟨g, 2, none⟩ = some c ∧ W.cell? ⟨g, 3, none⟩ = some d ∧ W.cell? ⟨g, 4, none⟩ = some e ∧ W.cell? ⟨g, 5, none⟩ = some f ∧ W.cell? ⟨g, 6, none⟩ = some h := by
  simp [World.cell?, hg]
theorem ps_some {W : World} {B : Nat} {v : Value} {L : List PV} (h : PsW W B v L) (hl : 0 < L.length) : ∃ g cap, v = .slice (some ⟨g, 0, none⟩) L.length cap := by
  rcases h.row.2 with ⟨k, k2⟩ | ⟨g, cap, cur, k, _⟩
  · omega
  · exact ⟨g, cap, k⟩
section
variable {R : Rg} {I : List InS} {nx sv : Nat} {room : Int} {tv v : Value} {rf ru : Int} {TP L : List PV} {B : Nat} {w : World}
set_option maxHeartbeats 4000000 in
set_option maxRecDepth 100000 in
theorem keep15 (h : RgH R I nx sv room tv rf w) (hT : PsW w 0 tv TP) (hO : ∀ x ∈ TP, x.P.Ok 1048576) (hL : PsW w B v L) (hOL : ∀ x ∈ L, x.P.Ok 1048576) (hln : L.length = TP.length) (hl2 : L.length ≤ 256) (hB : ∀ x, tv.ownBlock = some x → x < B) (hvs : ∃ a m c, v = .slice a m c) (hts : ∃ a m c, tv = .slice a m c) :
    Calls Tryz.prog 45 #[.pointer (some ⟨R.b, 0, none⟩), .agg #[v, .int .u64 ru]] w fun e w' => ∃ M : List PV, e = .returned (.tuple #[]) ∧ Hid (KpQ R I nx sv room tv rf ru TP L M w w') := by
  have hvl : ∃ a c, v = .slice a L.length c := by
    rcases hL.row.2 with ⟨k, k2⟩ | ⟨g, cap, cur, k, _⟩
    · exact ⟨none, 0, by rw [k, k2]⟩
    · exact ⟨_, _, k⟩
  obtain ⟨va, vc, rfl⟩ := hvl
  obtain ⟨ta, tm, tc, rfl⟩ := hts
  clear hvs
  have HLn := hidO hln
  clear hln
  have HD0 := hidO (new_1 w (.cells #[.slice va L.length vc, .int .u64 ru] 95))
  have HB0 := hidO (bel1 w (.cells #[.slice va L.length vc, .int .u64 ru] 95))
  have hRt : ¬ ∃ x, (Value.slice ta tm tc).ownBlock = some x ∧ x = R.b := fun ⟨x, hx, e⟩ => by
    obtain ⟨cs, hg⟩ := own_blk hT.row hx
    exact rg_ne h hg (by decide) e
  go_enter Tryz.func45, Tryz.ntmps45
  go_upto_region 1 with fail
  generalize w.alloc (.cells #[.slice va L.length vc, .int .u64 ru] 95) = w0 at *
  obtain ⟨d0, d1⟩ := two_c HD0.out
  go_upto_region 2 with fail
  go_loopw [9] (fun c W => ∃ (i : Nat) (M : List PV), i ≤ L.length ∧ c = .int .i64 (i : Int) ∧ Hid (KpI (.slice ta tm tc) TP L i w0 M W)) (fun c _ => L.length - (intOf c).toNat)
  case atStart => exact ⟨0, TP, by omega, rfl, ⟨hT.below HB0.out, rfl, (fun j _ _ _ k => by omega), (fun j _ _ _ => rfl), hO, Chg.refl _ _⟩⟩
  case round =>
    obtain ⟨i, M, hi, rfl, HK⟩ := hrel
    have hRc : Chg (fun x => (Value.slice ta tm tc).ownBlock = some x) w wr := (Chg.of_below HB0.out).trans HK.out.chg (fun x e => Or.inl e)
    have hRr := h.chg hRc (fun k => hRt ⟨_, k, rfl⟩)
    have hLr : PsW wr B (.slice va L.length vc) L := hL.chg hRc (fun x hx k => by
      have h1 := own_ge hL.row hx
      have h2 := hB x k
      omega) (fun y hy x hx k => by
      have h1 := own_ge (hL.cnt y hy) hx
      have h2 := hB x k
      omega)
    by_cases hlt : i < L.length
    · have hlt' : (i : Int) < (L.length : Int) := by omega
      have hML := HK.out.len
      obtain ⟨gv, cv, ev⟩ := ps_some hLr (by omega)
      obtain ⟨gt, ct, et⟩ := ps_some HK.out.ps (by have := HLn.out; omega)
      injection ev with ev1 ev2 ev3
      injection et with et1 et2 et3
      subst ev1 ev3 et1 et2 et3
      obtain ⟨⟨l0, l1, l2, l3, l4, l5, l6⟩, lf⟩ := own_cells7 hLr.row i hlt
      have hiM : i < M.length := by have := HLn.out; omega
      obtain ⟨⟨t0, t1, t2, t3, t4, t5, t6⟩, tf⟩ := own_cells7 HK.out.ps.row i hiM
      have c9 := hRr.cTv
      have hMi : M[i] ∈ M := List.getElem_mem hiM
      have hLi : L[i] ∈ L := List.getElem_mem hlt
      have HMg : Hid (∀ W, Below wr.heap.size wr W → Calls Tryz.prog 88 #[.agg #[.int .i64 M[i].P.hi, .int .u64 M[i].P.lo, M[i].v, .int .u64 (M[i].P.n : Int), .complex .f64 M[i].P.s M[i].P.c, .float .f64 M[i].P.mn, .float .f64 M[i].P.mx], .agg #[.int .i64 L[i].P.hi, .int .u64 L[i].P.lo, L[i].v, .int .u64 (L[i].P.n : Int), .complex .f64 L[i].P.s L[i].P.c, .float .f64 L[i].P.mn, .float .f64 L[i].P.mx]] W fun e w' => ∃ (P' : Pt) (ao : Option Addr) (k cap : Nat), e = .returned (.agg #[.int .i64 P'.hi, .int .u64 P'.lo, .slice ao k cap, .int .u64 (P'.n : Int), .complex .f64 P'.s P'.c, .float .f64 P'.mn, .float .f64 P'.mx]) ∧ Hid (MrgR M[i].P L[i].P P' ∧ w'.ownsRow wr.heap.size 160 2 (.slice ao k cap) P'.L.length (fl P'.L) ∧ Below wr.heap.size wr w')) := fun W hW => by
        have s1 := own_sn (chg_row (Chg.of_below (S := fun _ => False) hW) (HK.out.ps.cnt _ hMi) (fun _ _ k => k)) (Nat.zero_le _)
        have s2 := own_snB (chg_row (Chg.of_below (S := fun _ => False) hW) (hLr.cnt _ hLi) (fun _ _ k => k))
        refine Calls.mono (pmerge_p (M := 1048576) (Nat.le_refl _) (HK.out.ok _ hMi) (hOL _ hLi) M[i].v L[i].v W s1 s2) ?_
        rintro e w' ⟨P', ao, k, cap, rfl, q1, q2, q3⟩
        exact ⟨P', ao, k, cap, rfl, q1.out, own_leT q2.out hW.size, bt hW q3.out⟩
      clear hML
      have hiM' : (i : Int) < (M.length : Int) := by omega
      have sF := store_f
      have sC := store_c
      have HKs : Hid (∀ (W : World) (P' : Pt) (u : Value), MrgR M[i].P L[i].P P' → W.ownsRow wr.heap.size 160 2 u P'.L.length (fl P'.L) → Below wr.heap.size wr W → KpI (.slice (some ⟨gt, 0, none⟩) M.length tc) TP L (i + 1) w0 (M.set i ⟨P', u⟩) (put7P W gt (i * 7) ⟨P', u⟩)) := fun W P' u hm hu hW => by
        have hps := HK.out.ps.below hW
        obtain ⟨o1, o2⟩ := put7P_own hps.row i hiM ⟨P', u⟩
        have hMl := HK.out.len
        have hgt : ∀ y : PV, PvW W 0 y → ∀ x, y.v.ownBlock = some x → ¬ x = gt := fun y hy x hx e => by
          subst e
          exact ownNe hy hps.row (by decide) hx rfl
        refine ⟨⟨by rw [List.length_set]; exact o1, fun y hy => ?_⟩, by rw [List.length_set]; exact hMl, fun j h1 h2 h3 hj => ?_, fun j h1 h3 hj => ?_, fun y hy => ?_, ?_⟩
        · rcases List.mem_or_eq_of_mem_set hy with hy | hy
          · exact chg_row o2 (hps.cnt y hy) (hgt y (hps.cnt y hy))
          · rw [hy]
            have hu0 : PvW W 0 ⟨P', u⟩ := own_leT hu (Nat.zero_le _)
            exact chg_row o2 hu0 (hgt _ hu0)
        · by_cases e : j = i
          · subst e
            rw [List.getElem_set_self]
            have := HK.out.rest j h1 hiM (Nat.le_refl _)
            rw [← this]
            exact hm
          · rw [List.getElem_set_ne (fun k => e k.symm)]
            exact HK.out.done j h1 h2 (by rw [List.length_set] at h3; exact h3) (by omega)
        · rw [List.getElem_set_ne (by omega)]
          exact HK.out.rest j h1 (by rw [List.length_set] at h3; exact h3) (by omega)
        · rcases List.mem_or_eq_of_mem_set hy with hy | hy
          · exact HK.out.ok y hy
          · rw [hy]
            exact hm.ok (HK.out.ok _ hMi) (hOL _ hLi)
        · exact (HK.out.chg.trans (Chg.of_below (S := fun x => (Value.slice (some ⟨gt, 0, none⟩) M.length tc).ownBlock = some x) hW) (fun x e => Or.inl e)).trans (o2.mono (fun x (e : x = gt) => (by rw [e]; rfl : (Value.slice (some ⟨gt, 0, none⟩) M.length tc).ownBlock = some x))) (fun x e => Or.inl e)
      obtain ⟨la, lm, lc, elv⟩ := own_sl (hLr.cnt _ hLi)
      obtain ⟨ma, mm, mc, emv⟩ := own_sl (HK.out.ps.cnt _ hMi)
      rw [elv] at l2 HMg
      rw [emv] at t2 HMg
      generalize hPL : L[i].P = PL at *
      generalize hPM : M[i].P = PM at *
      clear hPL hPM elv emv hMi hLi
      go_upto_region 4 with fail
      have HbA : Hid (Below wr.heap.size wr (wr.alloc (.cells #[.int .i64 PL.hi, .int .u64 PL.lo, .slice la lm lc, .int .u64 (PL.n : Int), .complex .f64 PL.s PL.c, .float .f64 PL.mn, .float .f64 PL.mx] 184))) := bel1 _ _
      have HN := hidO (new_1 wr (.cells #[.int .i64 PL.hi, .int .u64 PL.lo, .slice la lm lc, .int .u64 (PL.n : Int), .complex .f64 PL.s PL.c, .float .f64 PL.mn, .float .f64 PL.mx] 184))
      have HT : Hid (∀ W, Below wr.heap.size wr W → W.cell? ⟨gt, i * 7, none⟩ = some (.int .i64 PM.hi) ∧ W.cell? ⟨gt, i * 7 + 1, none⟩ = some (.int .u64 PM.lo) ∧ W.cell? ⟨gt, i * 7 + 2, none⟩ = some (.slice ma mm mc) ∧ W.cell? ⟨gt, i * 7 + 3, none⟩ = some (.int .u64 (PM.n : Int)) ∧ W.cell? ⟨gt, i * 7 + 4, none⟩ = some (.complex .f64 PM.s PM.c) ∧ W.cell? ⟨gt, i * 7 + 5, none⟩ = some (.float .f64 PM.mn) ∧ W.cell? ⟨gt, i * 7 + 6, none⟩ = some (.float .f64 PM.mx) ∧ W.cell? ⟨R.b, 1289, none⟩ = some (.slice (some ⟨gt, 0, none⟩) M.length tc) ∧ ∀ o, W.frozen? ⟨gt, o, none⟩ = false) := fun W hW => ⟨kp t0 hW, kp t1 hW, kp t2 hW, kp t3 hW, kp t4 hW, kp t5 hW, kp t6 hW, kp c9 hW, fun o => frKp t0 tf hW o⟩
      clear t0 t1 t2 t3 t4 t5 t6 tf c9
      generalize wr.alloc (.cells #[.int .i64 PL.hi, .int .u64 PL.lo, .slice la lm lc, .int .u64 (PL.n : Int), .complex .f64 PL.s PL.c, .float .f64 PL.mn, .float .f64 PL.mx] 184) = wa at *
      obtain ⟨t0, t1, t2, t3, t4, t5, t6, c9, tf⟩ := HT.out _ HbA.out
      obtain ⟨p0, p1, p2, p3, p4, p5, p6⟩ := seven_c HN.out
      clear l0 l1 l2 l3 l4 l5 l6 lf
      go_region_law
        (rw [if_pos (by simp [Region.wanted])]; go_simp; with_reducible refine Calls.mono (HMg.out _ (by first | exact HbA.out | exact bel_dr HbA.out)) ?_; rintro e w3 ⟨P', ao, pk, pc, rfl, H3⟩; obtain ⟨t0, t1, t2, t3, t4, t5, t6, c9, tf⟩ := HT.out _ H3.out.2.2; simp only [])
      all_goals
        go_wp2_with fail
        have hfin := HKs.out w3 P' (.slice ao pk pc) H3.out.1 H3.out.2.1 H3.out.2.2
        unfold put7P at hfin
        exact ⟨⟨i + 1, _, by omega, congrArg (Value.int .i64) (by omega), hfin⟩, by simp [intOf]; omega⟩
    · have hi' : i = L.length := by omega
      have hlt' : ¬ (i : Int) < (L.length : Int) := by omega
      have c10 := hRr.cRf
      have f10 := hRr.fr 1290
      have hbx : wr.heap[w.heap.size]? = some (.cells #[.slice va L.length vc, .int .u64 ru] 95 (0, 0)) := HK.out.chg.at_ HD0.out (fun k => by
        obtain ⟨cs, hg⟩ := own_blk hT.row k
        have := (Array.getElem?_eq_some_iff.1 hg).1
        omega)
      obtain ⟨_, b1⟩ := two_c hbx
      have HRr := hidO hRr
      have HRc := hidO hRc
      clear hRr hRc hLr hbx
      go_upto_region 6 with fail
      go_region
      all_goals
        go_wp2_with fail
        go_end0
        have hs := Chg.set wr ⟨R.b, 1290, none⟩ (.int .u64 (IntKind.u64.wrap (rf + ru)))
        have hd := (Chg.of_below (S := fun x => x = R.b) (bel_dr (Below.refl _ (wr.setCell ⟨R.b, 1290, none⟩ (.int .u64 (IntKind.u64.wrap (rf + ru)))))))
        have hc : Chg (fun x => x = R.b) wr (wr.setCell ⟨R.b, 1290, none⟩ (.int .u64 (IntKind.u64.wrap (rf + ru)))).drew := hs.trans hd (fun x e => Or.inl e)
        refine ⟨rfl, M, ⟨(HRr.out.setRf _).below (bel_dr (Below.refl _ _)), HK.out.ps.chg hc (fun x hx e => hRt ⟨x, hx, e⟩) (fun y hy x hx e => ?_), HK.out.len, fun j h1 h2 h3 => HK.out.done j h1 h2 h3 (by omega), HK.out.ok, (HRc.out.mono (fun x e => Or.inr e)).trans (hc.mono (fun x e => Or.inl e)) (fun x e => Or.inl e)⟩⟩
        obtain ⟨cs, hg⟩ := own_blk (HK.out.ps.cnt y hy) hx
        exact rg_ne HRr.out hg (by decide) e
end
end Go.Proofs.YtfnohbalkpponaaGreatDoor
