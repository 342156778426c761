/- lay: the walk. Own work of the verifier. -/
import Derived.Test.YtfnohbalkpponaaGreatDoorZRF
import Derived.Test.YtfnohbalkpponaaGreatDoorZRE
import Derived.Test.YtfnohbalkpponaaGreatDoorZRC
namespace Go.Proofs.YtfnohbalkpponaaGreatDoor
open Go.RowKit Go.Maps

theorem cellsK (kd : Int) (hk : kd = 1 ∨ kd = 2 ∨ kd = 3) (s p : Int) (w : World) : Calls Tryz.prog 75 #[.int .i64 kd, .int .i64 s, .int .i64 p] w fun e w' => e = .returned (.int .i64 (celF kd s p)) ∧ Hid (Below w.heap.size w w') := by
  rcases hk with rfl | rfl | rfl
  · exact cells_counter s p w
  · exact cells_histogram s p w
  · exact cells_summary s p w
/-- What lay finds and leaves. -/
structure LayD (R : Rg) (I : List InS) (nx sv : Nat) (room : Int) (tv : Value) (rf : Int) (TP : List PV) (D : DataW Unit) (ser : List UInt8) (x : InS) (X : SlK) (tv' : Value) (w w' : World) : Prop where
  rg : RgH R (I ++ [x]) nx sv (room - celF x.kd (R.n : Int) (R.p : Int)) tv' rf w'
  mp : MpW w' R.mp (I.length + 1) (D.put (.string ser) (.lit (.int .i64 (I.length : Int))))
  tot : TvW w' tv' (TP ++ [PV.nil])
  kd : X.kd = x.kd ∧ X.s = x.s
  sl : SlW X R.p R.n (fun _ _ => frst x.kd (R.p : Int)) w'
  ge : ∀ g ∈ X.G 0 ++ X.G 1, w.heap.size ≤ g
  chg : Chg (fun y => y = R.b ∨ y = R.mp ∨ tv.ownBlock = some y) w w'
  fr : tv'.ownBlock = tv.ownBlock ∨ ∀ x, tv'.ownBlock = some x → w.heap.size ≤ x
abbrev KL (B : Nat) (R : Rg) (kd : Int) (W : World) : Prop := W.cell? ⟨B, 0, none⟩ = some (.int .i64 kd) ∧ W.cell? ⟨R.b, 0, none⟩ = some (.int .i64 (R.n : Int)) ∧ W.cell? ⟨R.b, 1, none⟩ = some (.int .i64 (R.p : Int))
theorem KL.kp {B : Nat} {R : Rg} {kd : Int} {W W1 : World} (h : KL B R kd W) (hb : Hid (Below W.heap.size W W1)) : KL B R kd W1 := ⟨Go.Proofs.YtfnohbalkpponaaGreatDoor.kp h.1 hb.out, Go.Proofs.YtfnohbalkpponaaGreatDoor.kp h.2.1 hb.out, Go.Proofs.YtfnohbalkpponaaGreatDoor.kp h.2.2 hb.out⟩
theorem KL.dr {B : Nat} {R : Rg} {kd : Int} {W : World} (h : KL B R kd W) (n : Nat) : KL B R kd (W.drewN n) := KL.kp h (below_drew _ _)
def Value.firm : Value → Bool
  | .int _ _ => true
  | .pointer _ => true
  | _ => false
/-- A block whose first cell is a number or a pointer is none of a slab's. -/
theorem SlW.no {X : SlK} {p n : Nat} {C : Nat → Nat → List Int} {w : World} (H : SlW X p n C w) (hn : 0 < n) {y : Nat} {cs : Array Value} {t : TypeId} {z : Nat × Nat} (hy : w.heap[y]? = some (.cells cs t z)) (ht : t ≠ 90) {v : Value} (hc : w.cell? ⟨y, 0, none⟩ = some v) (hv : Value.firm v = true) : ¬ X.Blk y := fun hb => by
  rcases hb with rfl | rfl | rfl | rfl | hb
  · rw [H.g.slab] at hc; injection hc with hc; subst hc; cases hv
  · obtain ⟨cap, h0⟩ := H.g.held 0 (by decide)
    rw [h0] at hc; injection hc with hc; subst hc; cases hv
  · have := H.g.rows 0 (by decide) 0 (by rw [H.g.len 0 (by decide)]; exact hn)
    rw [this] at hc; injection hc with hc; subst hc; cases hv
  · have := H.g.rows 1 (by decide) 0 (by rw [H.g.len 1 (by decide)]; exact hn)
    rw [this] at hc; injection hc with hc; subst hc; cases hv
  · exact H.g.not_row hy ht hb
theorem SlW.noMap {X : SlK} {p n : Nat} {C : Nat → Nat → List Int} {w : World} (H : SlW X p n C w) (hn : 0 < n) {y : Nat} {es : Array MapEntry} {c : Nat} (hy : w.heap[y]? = some (.map es c)) : ¬ X.Blk y := fun hb => by
  have hno : ∀ o, w.cell? ⟨y, o, none⟩ = none := fun o => by simp [World.cell?, hy]
  rcases hb with rfl | rfl | rfl | rfl | hb
  · have := H.g.slab; rw [hno] at this; cases this
  · obtain ⟨cap, h0⟩ := H.g.held 0 (by decide)
    rw [hno] at h0; cases h0
  · have := H.g.rows 0 (by decide) 0 (by rw [H.g.len 0 (by decide)]; exact hn)
    rw [hno] at this; cases this
  · have := H.g.rows 1 (by decide) 0 (by rw [H.g.len 1 (by decide)]; exact hn)
    rw [hno] at this; cases this
  · rcases List.mem_append.1 hb with hm | hm
    · obtain ⟨i, hi, e⟩ := List.getElem_of_mem hm
      have := H.g.left 0 (by decide) i hi
      unfold RowW at this; rw [e, hy] at this; cases this
    · obtain ⟨i, hi, e⟩ := List.getElem_of_mem hm
      have := H.g.left 1 (by decide) i hi
      unfold RowW at this; rw [e, hy] at this; cases this
theorem key15 (ser : List UInt8) (h : ser.length ≤ 140737488355328) : keyOf Tryz.prog 9 (.string ⟨ser.toArray⟩) = some (.string ser) := by
  have := WideMaps.keyOf_string_mk (P := Tryz.prog) Tryz.underlying9 (s := ⟨ser.toArray⟩) (by show ser.toArray.size ≤ maxLen; simp [maxLen]; omega)
  simpa using this
theorem wf15 (a : Int) (h0 : 0 ≤ a) (h1 : a < 4611686018427387904) : (Lit.int .i64 a).wf = true := WalkArith.wf_i64 (by omega)
theorem mp_ne {R : Rg} {I : List InS} {nx sv : Nat} {room : Int} {tv : Value} {rf : Int} {w : World} {n : Nat} {D : DataW Unit} (h : RgH R I nx sv room tv rf w) (hM : MpW w R.mp n D) : R.mp ≠ R.b := fun e => by
  obtain ⟨_, _, hb⟩ := h.ty
  obtain ⟨es, clock, hm, _⟩ := hM
  rw [e, hb] at hm
  cases hm
theorem grown_set (W : World) (a : Addr) (u : Value) : W.grownBy (W.setCell a u) (some a.block) := ⟨rfl, rfl, rfl, by simp, fun k _ hn => Below.heap_setCell _ _ _ _ (fun e => hn (by rw [e]))⟩
theorem chg_grown {S : Nat → Prop} {a b : World} {row : Option Nat} (h : a.grownBy b row) (hs : ∀ x, row = some x → S x) : Chg S a b := ⟨h.os, h.tape, h.output, h.size, fun k hk hn => h.block k hk (fun e => hn (hs k e.symm))⟩
theorem own_belT {W W' : World} {tv : Value} {L : List PV} (h : TvW W tv L) (hb : Below W.heap.size W W') : TvW W' tv L := chg_row (Chg.of_below (S := fun _ => False) hb) h (fun _ _ k => k)
theorem own_blk {W : World} {B : Nat} {e : TypeId} {s n : Nat} {v : Value} {xs : List Value} (h : W.ownsRow B e s v n xs) {x : Nat} (hx : v.ownBlock = some x) : ∃ cs, W.heap[x]? = some (.cells cs e (0, 0)) := by
  rcases h.2 with ⟨k, _⟩ | ⟨g, cap, cur, k, _, hg, _⟩
  · rw [k] at hx; cases hx
  · rw [k] at hx
    have : g = x := by simpa [Value.ownBlock] using hx
    rw [← this]
    exact ⟨_, hg⟩
theorem tv_apart {R : Rg} {I : List InS} {nx sv : Nat} {room : Int} {tv tv0 : Value} {rf : Int} {w : World} {n : Nat} {D : DataW Unit} {L : List PV} (h : RgH R I nx sv room tv0 rf w) (hM : MpW w R.mp n D) (hV : TvW w tv L) {x : Nat} (hx : tv.ownBlock = some x) : ¬ (x = R.b ∨ x = R.mp) := fun k => by
  obtain ⟨cs, hg⟩ := own_blk hV hx
  rcases k with k | k
  · exact rg_ne h hg (by decide) k
  · obtain ⟨es, ck, hm, _⟩ := hM
    rw [← k, hg] at hm
    cases hm
theorem add0 (b j : Nat) : (⟨b, 0, none⟩ : Addr).add j = ⟨b, j, none⟩ := by
  unfold Addr.add
  by_cases h : j = 0 <;> simp [h]
theorem part_cells {W : World} : ∀ j u, (pvC PV.nil)[j]? = some u → (W.alloc (.cells (pvC PV.nil).toArray 184)).cell? ((⟨W.heap.size, 0, none⟩ : Addr).add j) = some u := fun j u hu => by
  have h0 := new_1 W (.cells (pvC PV.nil).toArray 184)
  rw [add0]
  unfold World.cell?
  simp only [h0]
  simpa using hu
theorem part_one : ∀ u ∈ pvC PV.nil, u.oneCell' = true := fun u hu => by
  simp [pvC, PV.nil, Pt.nil] at hu
  rcases hu with rfl | rfl | rfl | rfl | rfl | rfl <;> rfl
/-- What is told of the append. -/
def AppT (w w' : World) (tv v' : Value) (_L L' : List PV) : Prop := TvW w' v' L' ∧ Chg (fun y => tv.ownBlock = some y) w w' ∧ (v'.ownBlock = tv.ownBlock ∨ ∀ x, v'.ownBlock = some x → w.heap.size ≤ x)
theorem app_rg {R : Rg} {I : List InS} {nx sv : Nat} {room : Int} {tv v' : Value} {rf : Int} {n N : Nat} {D : DataW Unit} {TP : List PV} {w5 w6 : World} {o : Obj} (hR : RgH R I nx sv room tv rf w5) (hV : TvW w5 tv TP) (hM : MpW w5 R.mp N D) (hn : n = TP.length)
    (hp : (∃ g cap, tv = .slice (some ⟨g, 0, none⟩) n cap ∧ v' = .slice (some ⟨g, 0, none⟩) (n + 1) cap ∧ w6.ownsRow 0 184 7 v' (n + 1) (flP TP ++ pvC PV.nil) ∧ (w5.alloc o).grownBy w6 (some g)) ∨ (w6.ownsRow (w5.alloc o).heap.size 184 7 v' (n + 1) (flP TP ++ pvC PV.nil) ∧ Below (w5.alloc o).heap.size (w5.alloc o) w6)) :
    RgH R I nx sv room tv rf w6 ∧ MpW w6 R.mp N D ∧ AppT w5 w6 tv v' TP (TP ++ [PV.nil]) := by
  subst hn
  have e : flP (TP ++ [PV.nil]) = flP TP ++ pvC PV.nil := by rw [flP_app]; simp [flP]
  have hap := fun x hx => tv_apart hR hM hV (x := x) hx
  rcases hp with ⟨g, cap, rfl, rfl, h1, h2⟩ | ⟨h1, h2⟩
  · have hc : Chg (fun y => (Value.slice (some ⟨g, 0, none⟩) TP.length cap).ownBlock = some y) w5 w6 := (Chg.of_below (S := fun y => (Value.slice (some ⟨g, 0, none⟩) TP.length cap).ownBlock = some y) (bel1 w5 o)).trans (chg_grown h2 (fun x hx => by cases hx; rfl)) (fun x hx => Or.inl hx)
    refine ⟨hR.chg hc (fun k => hap _ k (Or.inl rfl)), ?_, ⟨by unfold TvW; rw [e]; simpa using h1, hc, Or.inl rfl⟩⟩
    exact (hM.kept (row := none) (grown_bel (bel1 w5 o)) (by simp)).kept (row := some g) h2 (fun k => hap g rfl (Or.inr (by injection k with k; exact k.symm)))
  · have hb := bt (bel1 w5 o) h2
    have hs : w5.heap.size ≤ (w5.alloc o).heap.size := (bel1 w5 o).size
    refine ⟨hR.below hb, hM.kept (row := none) (grown_bel hb) (by simp), ⟨?_, Chg.of_below hb, Or.inr (fun x hx => ?_)⟩⟩
    · unfold TvW
      rw [e]
      rcases h1.2 with ⟨k, k2⟩ | ⟨g, cap, cur, k, hb', hg, h3, h4, h5, h6⟩
      · simp at k2
      · exact ⟨by simpa using h1.1, Or.inr ⟨g, cap, cur, by simpa using k, Nat.zero_le _, hg, by simpa using h3, h4, h5, by simpa using h6⟩⟩
    · rcases h1.2 with ⟨k, _⟩ | ⟨g, cap, cur, k, hb', _⟩
      · rw [k] at hx; cases hx
      · rw [k] at hx
        have : g = x := by simpa [Value.ownBlock] using hx
        omega
theorem four_c {W : World} {g : Nat} {a b c d : Value} {T : TypeId} (h : W.heap[g]? = some (.cells #[a, b, c, d] T (0, 0))) : W.cell? ⟨g, 0, none⟩ = some a ∧ W.cell? ⟨g, 1, none⟩ = some b ∧ W.cell? ⟨g, 2, none⟩ = some c ∧ W.cell? ⟨g, 3, none⟩ = some d := by
  simp [World.cell?, h]
theorem RgH.spare {R : Rg} {I : List InS} {nx sv : Nat} {room : Int} {tv : Value} {rf : Int} {w : World} (h : RgH R I nx sv room tv rf w) (hl : I.length < 256) : (∃ u, w.cell? ⟨R.b, 4 + I.length * 5, none⟩ = some u) ∧ (∃ u, w.cell? ⟨R.b, 4 + I.length * 5 + 1, none⟩ = some u) ∧ (∃ u, w.cell? ⟨R.b, 4 + I.length * 5 + 2, none⟩ = some u) ∧ (∃ u, w.cell? ⟨R.b, 4 + I.length * 5 + 3, none⟩ = some u) ∧ (∃ u, w.cell? ⟨R.b, 4 + I.length * 5 + 4, none⟩ = some u) := by
  obtain ⟨ins, a, c, k⟩ := h
  have e : ∀ j, j < 5 → ∃ u, w.cell? ⟨R.b, 4 + I.length * 5 + j, none⟩ = some u := fun j hj => by
    rw [k.cell]
    have hlen := rgL_len (n := R.n) (p := R.p) (k := R.k) (cnt := I.length) (nx := (nx : Int)) (sv := (sv : Int)) (mp := R.mp) (room := room) (fb := R.fb) (tv := tv) (rf := rf) a.1
    exact ⟨_, List.getElem?_eq_getElem (by rw [hlen]; omega)⟩
  exact ⟨e 0 (by decide), e 1 (by decide), e 2 (by decide), e 3 (by decide), e 4 (by decide)⟩
theorem tv_no {X : SlK} {p n : Nat} {C : Nat → Nat → List Int} {w : World} {tv : Value} {L : List PV} (H : SlW X p n C w) (hn : 0 < n) (hV : TvW w tv L) (h0 : L = [] → tv = .slice none 0 0) {y : Nat} (hy : tv.ownBlock = some y) : ¬ X.Blk y := by
  cases L with
  | nil => rw [h0 rfl] at hy; cases hy
  | cons x L =>
    obtain ⟨cs, hg⟩ := own_blk hV hy
    have : w.cell? ⟨y, 0, none⟩ = some (.int .i64 x.P.hi) := by
      rcases hV.2 with ⟨k, _⟩ | ⟨g, cap, cur, k, hb', hg', h3, h4, h5, h6⟩
      · rw [k] at hy; cases hy
      · rw [k] at hy
        have e : g = y := by simpa [Value.ownBlock] using hy
        subst e
        have h7 : (cur.toList.take ((x :: L).length * 7))[0]? = (flP (x :: L))[0]? := by rw [h6]
        have h8 : (flP (x :: L))[0]? = some (.int .i64 x.P.hi) := rfl
        rw [h8, List.getElem?_take, if_pos (by simp)] at h7
        unfold World.cell?
        simp only [hg']
        simpa using h7
    exact H.no hn hg (by decide) this rfl
theorem chg_s {p : Nat} {a b : World} (h : Chg (fun y => y = p) a b) (o : Nat) (u : Value) : Chg (fun y => y = p) a (b.setCell ⟨p, o, none⟩ u) := h.trans (Chg.set b ⟨p, o, none⟩ u) (fun _x e => Or.inl e)
/-- A registry's block while a new instrument is laid, but not counted. -/
def RgN (R : Rg) (I : List InS) (nx sv : Nat) (room : Int) (tv : Value) (rf : Int) (w : World) : Prop := ∃ ins, InsAt ins I ∧ I.length ≤ 256 ∧ RgB w R.b (rgL R.n R.p R.k (I.length - 1) ins (nx : Int) (sv : Int) R.mp room R.fb tv rf)
theorem ins5 {R : Rg} {I : List InS} {nx sv : Nat} {room : Int} {tv : Value} {rf : Int} {w : World} (h : RgH R I nx sv room tv rf w) (hl : I.length < 256) (x : InS) :
    RgN R (I ++ [x]) nx sv room tv rf (((((w.setCell ⟨R.b, 4 + I.length * 5, none⟩ (.int .i64 x.kd)).setCell ⟨R.b, 4 + I.length * 5 + 1, none⟩ (.string ⟨x.nm.toArray⟩)).setCell ⟨R.b, 4 + I.length * 5 + 2, none⟩ (.string ⟨x.hp.toArray⟩)).setCell ⟨R.b, 4 + I.length * 5 + 3, none⟩ (.slice x.la x.D.length x.lc)).setCell ⟨R.b, 4 + I.length * 5 + 4, none⟩ (.pointer (some ⟨x.s, 0, none⟩))) ∧
    Chg (fun y => y = R.b) w (((((w.setCell ⟨R.b, 4 + I.length * 5, none⟩ (.int .i64 x.kd)).setCell ⟨R.b, 4 + I.length * 5 + 1, none⟩ (.string ⟨x.nm.toArray⟩)).setCell ⟨R.b, 4 + I.length * 5 + 2, none⟩ (.string ⟨x.hp.toArray⟩)).setCell ⟨R.b, 4 + I.length * 5 + 3, none⟩ (.slice x.la x.D.length x.lc)).setCell ⟨R.b, 4 + I.length * 5 + 4, none⟩ (.pointer (some ⟨x.s, 0, none⟩))) := by
  obtain ⟨ins, a, c, k⟩ := h
  refine ⟨⟨_, ins_set a hl x, by simp; omega, ?_⟩, ?_⟩
  · have h0 := k.set (4 + I.length * 5) (.int .i64 x.kd)
    have h1 := h0.set (4 + I.length * 5 + 1) (.string ⟨x.nm.toArray⟩)
    have h2 := h1.set (4 + I.length * 5 + 2) (.string ⟨x.hp.toArray⟩)
    have h3 := h2.set (4 + I.length * 5 + 3) (.slice x.la x.D.length x.lc)
    have h4 := h3.set (4 + I.length * 5 + 4) (.pointer (some ⟨x.s, 0, none⟩))
    rw [Nat.add_assoc 4, Nat.add_assoc 4, Nat.add_assoc 4, Nat.add_assoc 4, rgL_setI a.1 _ (by omega), rgL_setI (by simpa using a.1) _ (by omega), rgL_setI (by simpa using a.1) _ (by omega), rgL_setI (by simpa using a.1) _ (by omega), rgL_setI (by simpa using a.1) _ (by omega)] at h4
    simpa [Nat.add_assoc] using h4
  · exact chg_s (chg_s (chg_s (chg_s (chg_s (Chg.refl _ _) _ _) _ _) _ _) _ _) _ _
theorem RgN.below {R : Rg} {I : List InS} {nx sv : Nat} {room : Int} {tv : Value} {rf : Int} {w w' : World} (h : RgN R I nx sv room tv rf w) (hb : Below w.heap.size w w') : RgN R I nx sv room tv rf w' := by
  obtain ⟨ins, a, c, k⟩ := h
  exact ⟨ins, a, c, k.below hb⟩
theorem grown_chg {p : Nat} {a b : World} (h : Chg (fun y => y = p) a b) : a.grownBy b (some p) := ⟨h.os, h.tape, h.output, h.size, fun k hk hn => h.block k hk (fun e => hn (by rw [e]))⟩
theorem RgN.c3 {R : Rg} {I : List InS} {nx sv : Nat} {room : Int} {tv : Value} {rf : Int} {w : World} (h : RgN R I nx sv room tv rf w) : w.cell? ⟨R.b, 3, none⟩ = some (.int .i64 ((I.length - 1 : Nat) : Int)) ∧ w.frozen? ⟨R.b, 3, none⟩ = false := by
  obtain ⟨ins, a, c, k⟩ := h
  exact ⟨k.cell 3, k.fr 3⟩
theorem RgN.done {R : Rg} {I : List InS} {nx sv : Nat} {room : Int} {tv : Value} {rf : Int} {w : World} (h : RgN R I nx sv room tv rf w) : RgH R I nx sv room tv rf (w.setCell ⟨R.b, 3, none⟩ (.int .i64 (I.length : Int))) := by
  obtain ⟨ins, a, c, k⟩ := h
  exact ⟨ins, a, c, k.set 3 _⟩
theorem KL2 {B : Nat} {R : Rg} {kd : Int} {w1 W W1 : World} (h : KL B R kd W ∧ Below w1.heap.size w1 W) (hb : Hid (Below W.heap.size W W1)) : KL B R kd W1 ∧ Below w1.heap.size w1 W1 := ⟨KL.kp h.1 hb, bt h.2 hb.out⟩
section
variable {R : Rg} {I : List InS} {nx sv : Nat} {room : Int} {tv : Value} {rf : Int} {TP : List PV} {D : DataW Unit} {w : World}
set_option maxHeartbeats 4000000 in
set_option maxRecDepth 100000 in
theorem lay15_ok (h : RgH R I nx sv room tv rf w) (hM : MpW w R.mp I.length D) (hV : TvW w tv TP) (hTI : TP.length = I.length) (hV0 : TP = [] → tv = .slice none 0 0) (n1 : 1 ≤ R.n) (n2 : R.n ≤ 16) (p1 : 1 ≤ R.p) (p2 : R.p ≤ 14) (hl : I.length < 256)
    (ser : List UInt8) (hser : ser.length ≤ 140737488355328) (kd : Int) (nm hp : List UInt8) (lb lo : Nat) (la : Option Addr) (lc : Nat) (Ls : List (List UInt8 × List UInt8)) (hk : kd = 1 ∨ kd = 2 ∨ kd = 3) (hr1 : celF kd (R.n : Int) (R.p : Int) ≤ room) (hr2 : room ≤ 1048576) :
    Calls Tryz.prog 38 #[.pointer (some ⟨R.b, 0, none⟩), .string ⟨ser.toArray⟩, .agg #[.int .i64 kd, .string ⟨nm.toArray⟩, .string ⟨hp.toArray⟩, .slice la Ls.length lc]] w fun e w' => ∃ (X : SlK) (tv' : Value), e = .returned (.tuple #[.int .i64 (I.length : Int), .int .i64 0]) ∧ Hid (LayD R I nx sv room tv rf TP D ser ⟨kd, nm, hp, lb, lo, la, lc, Ls, X.s⟩ X tv' w w') := by
  have HB0 : Hid (Below w.heap.size w (w.alloc (.cells #[.int .i64 kd, .string ⟨nm.toArray⟩, .string ⟨hp.toArray⟩, .slice la Ls.length lc] 41))) := bel1 _ _
  have HD0 : Hid ((w.alloc (.cells #[.int .i64 kd, .string ⟨nm.toArray⟩, .string ⟨hp.toArray⟩, .slice la Ls.length lc] 41)).heap[w.heap.size]? = some (.cells #[.int .i64 kd, .string ⟨nm.toArray⟩, .string ⟨hp.toArray⟩, .slice la Ls.length lc] 41 (0, 0))) := new_1 _ _
  have H0 := hidO (h.below HB0.out)
  have HCl : Hid (∀ W, _) := cellsK kd hk (R.n : Int) (R.p : Int)
  have HNw : Hid (∀ W, _) := newK kd hk R.n R.p n1 n2 p1 p2 (by omega)
  have HA : Hid (∀ _ : Unit, _) := fun _ => all_any H0.out
  have hc0 : 0 ≤ celF kd (R.n : Int) (R.p : Int) := by
    unfold celF
    split
    · exact Int.mul_nonneg (by omega) (by omega)
    · omega
  go_enter Tryz.func38, Tryz.ntmps38
  go_upto_region 1 with fail
  generalize w.alloc (.cells #[.int .i64 kd, .string ⟨nm.toArray⟩, .string ⟨hp.toArray⟩, .slice la Ls.length lc] 41) = w0 at *
  have hne : ¬ (I.length : Int) = 256 := by omega
  go_upto_region 4 with (go_at_call 70; with_reducible refine Calls.mono (HA.out ()) ?_; rintro e w1 ⟨rfl, HB1⟩)
  have hz1 : KL w.heap.size R kd w1 := KL.kp ⟨by have := HD0.out; simp [World.cell?, this], H0.out.c0, H0.out.c1⟩ HB1
  have hlt := h.lt
  have HBW : Hid (Below w.heap.size w w1) := bt HB0.out HB1.out
  clear HA
  generalize hcel : celF kd (R.n : Int) (R.p : Int) = cel at *
  have HE := hidO hcel
  clear hcel
  go_cut [9] from 12 (fun c V => c = .int .i64 cel ∧ Hid (Below w1.heap.size w1 V))
  case first =>
    go_region_held3 (fun W => KL w.heap.size R kd W ∧ Below w1.heap.size w1 W)
      (first | with_reducible assumption | exact KL2 (by with_reducible assumption) (by with_reducible assumption) | exact ⟨hz1, Below.refl _ _⟩ | exact KL2 ⟨hz1, Below.refl _ _⟩ (below_drew _ _))
      (first | (go_at_call 75; with_reducible refine Calls.mono (HCl.out _) ?_; rintro e w2 ⟨rfl, HB2⟩))
    all_goals
      rename_i hG1
      go_wp2_with fail
      go_meet
      exact ⟨rfl, hG1.2⟩
  case rest =>
  obtain ⟨rfl, HB2⟩ := hcut
  have hz2 : KL w.heap.size R kd wc := KL.kp hz1 HB2
  have HBW2 : Hid (Below w.heap.size w wc) := bt HBW.out HB2.out
  have c7 := (h.below HBW2.out).cRoom
  have hrm : ¬ room < cel := by omega
  go_upto_region 7 with fail
  go_cut [10, 11] from 12 (fun a b V => ∃ X : SlK, a = .pointer (some ⟨X.s, 0, none⟩) ∧ b = .int .i64 0 ∧ Hid (Below wc.heap.size wc V) ∧ Hid (X.kd = kd ∧ SlW X R.p R.n (fun _ _ => frst kd (R.p : Int)) V ∧ ∀ g ∈ X.G 0 ++ X.G 1, wc.heap.size ≤ g))
  case first =>
    go_region_held3 (fun W => KL w.heap.size R kd W ∧ Below wc.heap.size wc W)
      (first | with_reducible assumption | exact KL2 (by with_reducible assumption) (by with_reducible assumption) | exact ⟨hz2, Below.refl _ _⟩ | exact KL2 ⟨hz2, Below.refl _ _⟩ (below_drew _ _))
      (first | (go_at_call 76; with_reducible refine Calls.mono (HNw.out _) ?_; rintro e w3 ⟨X, rfl, HX3⟩; have HB3 := hidO HX3.out.2.2.1))
    all_goals
      rename_i hG1
      go_wp2_with fail
      go_meet
      exact ⟨X, rfl, rfl, hG1.2, HX3.out.1, HX3.out.2.1, HX3.out.2.2.2⟩
  case rest =>
  obtain ⟨X, rfl, rfl, HB3, HX3⟩ := hcut
  have HBW3 : Hid (Below w.heap.size w wc) := bt HBW2.out HB3.out
  have HGe : Hid (∀ g ∈ X.G 0 ++ X.G 1, w.heap.size ≤ g) := fun g hg => Nat.le_trans HBW2.out.size (HX3.out.2.2 g hg)
  have H3 := hidO (h.below HBW3.out)
  have hmb : R.mp ≠ R.b := mp_ne h hM
  have HM3 : Hid (MpW wc R.mp I.length D) := hM.kept (row := none) (grown_bel HBW3.out) (by simp)
  have HV3 : Hid (TvW wc tv TP) := chg_row (Chg.of_below (S := fun _ => False) HBW3.out) hV (fun _ _ k => k)
  have HD3 : Hid (wc.heap[w.heap.size]? = some (.cells #[.int .i64 kd, .string ⟨nm.toArray⟩, .string ⟨hp.toArray⟩, .slice la Ls.length lc] 41 (0, 0))) := ((bt HB1.out (bt HB2.out HB3.out)).block _ (Array.getElem?_eq_some_iff.1 HD0.out).1).trans HD0.out
  clear hz1 hz2 HBW HBW2 HB1 HB2 HB3 HCl HNw H0 HD0 HB0 h hM hV c7
  have c7 := H3.out.cRoom
  have f7 := H3.out.fr 1287
  have HR4 := hidO (H3.out.setRoom (room - cel))
  have c6 := HR4.out.cMp
  have HM4 : Hid (MpW (wc.setCell ⟨R.b, 1287, none⟩ (.int .i64 (room - cel))) R.mp I.length D) := HM3.out.kept (row := some R.b) (grown_set _ _ _) (by simpa using hmb)
  go_upto_region 12 with (at_mapUpdate; refine wpList_mapUpdate_own _ rfl _ _ _ 79 rfl 9 3 law15 Tryz.underlying79 _ R.mp I.length D rfl HM4.out (by unfold maxLen; omega) _ _ (.string ser) rfl rfl (key15 ser hser) _ [] (plainElem_int Tryz.underlying3 (wf15 _ (by omega) (by omega))) ?_; intro w5 hM5 hg5; have HM5 := hidO hM5; have HG5 := hidO hg5)
  have hG : Chg (fun y => y = R.mp) (wc.setCell ⟨R.b, 1287, none⟩ (.int .i64 (room - cel))) w5 := chg_grown HG5.out (fun x hx => by cases hx; rfl)
  have HC5 : Hid (Chg (fun y => y = R.b ∨ y = R.mp) wc w5) := ((Chg.set wc ⟨R.b, 1287, none⟩ _).mono (fun x e => Or.inl e)).trans hG (fun x e => Or.inl (Or.inr e))
  have HR5 : Hid (RgH R I nx sv (room - cel) tv rf w5) := HR4.out.chg hG (fun e => hmb e.symm)
  have hbw : ∀ x, tv.ownBlock = some x → ¬ (x = R.b ∨ x = R.mp) := fun x hx e => tv_apart H3.out HM3.out HV3.out hx e
  have HV5 : Hid (TvW w5 tv TP) := chg_row HC5.out HV3.out hbw
  have hdl : w.heap.size < wc.heap.size := (Array.getElem?_eq_some_iff.1 HD3.out).1
  have hdb : ¬ (w.heap.size = R.b ∨ w.heap.size = R.mp) := by
    obtain ⟨es, ck, hm, _⟩ := HM3.out
    intro k
    rcases k with k | k
    · omega
    · rw [← k, HD3.out] at hm; cases hm
  have HD5 := hidO (HC5.out.at_ HD3.out hdb)
  clear hG c6 c7 f7 HM4 HR4 HG5
  have c9 := HR5.out.cTv
  obtain ⟨i0, hi0, hz0, hz1, hz2⟩ := info_parts infoPart
  go_upto_region 13 with (at_builtin; refine Po.wpList_append_two _ rfl _ _ 93 rfl 0 184 i0 (.agg (pvC PV.nil).toArray) 7 80 Tryz.underlying93 hi0 hz0 hz1 hz2 rfl tv TP.length (flP TP) rfl (own_belT HV5.out (bel1 _ _)) ⟨_, 0, none⟩ 1 1 (pvC PV.nil) rfl rfl part_cells part_one (by omega) (by unfold maxLen; omega) (by omega) ?_; intro v' w6 hp6; have HR6 := hidO (app_rg HR5.out HV5.out HM5.out rfl hp6); obtain ⟨a6, m6, k6, rfl⟩ := own_sl HR6.out.2.2.1; have f9 := HR6.out.1.fr 1289; have c9 := HR6.out.1.cTv)
  have HFr : Hid ((Value.slice a6 m6 k6).ownBlock = tv.ownBlock ∨ ∀ x, (Value.slice a6 m6 k6).ownBlock = some x → w.heap.size ≤ x) := by
    rcases HR6.out.2.2.2.2 with k | k
    · exact Or.inl k
    · exact Or.inr (fun x hx => Nat.le_trans (Nat.le_trans HBW3.out.size HC5.out.size) (k x hx))
  have hc6 := HR6.out.2.2.2.1
  have hs7 := Chg.set w6 ⟨R.b, 1289, none⟩ (.slice a6 m6 k6)
  have HR7 := hidO (HR6.out.1.setTv (.slice a6 m6 k6))
  have HC7 : Hid (Chg (fun y => y = R.b ∨ y = R.mp ∨ tv.ownBlock = some y) wc (w6.setCell ⟨R.b, 1289, none⟩ (.slice a6 m6 k6))) := ((HC5.out.mono (fun x e => by rcases e with e | e; exact Or.inl e; exact Or.inr (Or.inl e))).trans (hc6.mono (fun x e => Or.inr (Or.inr e))) (fun x e => Or.inl e)).trans (hs7.mono (fun x e => Or.inl e)) (fun x e => Or.inl e)
  have HM7 : Hid (MpW (w6.setCell ⟨R.b, 1289, none⟩ (.slice a6 m6 k6)) R.mp (I.length + 1) (D.put (.string ser) (.lit (.int .i64 (I.length : Int))))) := HR6.out.2.1.kept (row := some R.b) (grown_set _ _ _) (by simpa using hmb)
  have HT7 : Hid (TvW (w6.setCell ⟨R.b, 1289, none⟩ (.slice a6 m6 k6)) (.slice a6 m6 k6) (TP ++ [PV.nil])) := chg_row hs7 HR6.out.2.2.1 (fun x hx e => tv_apart HR6.out.1 HR6.out.2.1 HR6.out.2.2.1 hx (Or.inl e))
  have hno : ∀ y, (y = R.b ∨ y = R.mp ∨ tv.ownBlock = some y) → ¬ X.Blk y := fun y hy => by
    rcases hy with rfl | rfl | hy
    · obtain ⟨cs, z, hb⟩ := H3.out.ty
      exact HX3.out.2.1.no (by omega) hb (by decide) H3.out.c0 rfl
    · obtain ⟨es, ck, hm, _⟩ := HM3.out
      exact HX3.out.2.1.noMap (by omega) hm
    · exact tv_no HX3.out.2.1 (by omega) HV3.out hV0 hy
  have HX7 := hidO (HX3.out.2.1.chg HC7.out (fun x hx k => hno x k hx))
  have HD7 : Hid ((w6.setCell ⟨R.b, 1289, none⟩ (.slice a6 m6 k6)).heap[w.heap.size]? = some (.cells #[.int .i64 kd, .string ⟨nm.toArray⟩, .string ⟨hp.toArray⟩, .slice la Ls.length lc] 41 (0, 0))) := HC7.out.at_ HD3.out (fun k => by
    rcases k with k | k | k
    · exact hdb (Or.inl k)
    · exact hdb (Or.inr k)
    · obtain ⟨cs, hg⟩ := own_blk HV3.out k
      rw [HD3.out] at hg
      injection hg with hg
      injection hg with _ hg
      exact absurd hg (by decide))
  clear hc6 hs7 hno c9 f9 HR6 hp6 HR5 HC5 HM5 HV5 HD5 hdb hdl hbw HM3 HV3 HD3 H3 hi0 hz0 hz1 hz2
  generalize w6.setCell ⟨R.b, 1289, none⟩ (.slice a6 m6 k6) = w7 at *
  obtain ⟨d0, d1, d2, d3⟩ := four_c HD7.out
  obtain ⟨⟨u0, e0⟩, ⟨u1, e1⟩, ⟨u2, e2⟩, ⟨u3, e3⟩, ⟨u4, e4⟩⟩ := HR7.out.spare hl
  have g0 := HR7.out.fr
  go_cut [] from 12 (fun V => ∃ q, V = (((((w7.setCell ⟨R.b, 4 + I.length * 5, none⟩ (.int .i64 kd)).setCell ⟨R.b, 4 + I.length * 5 + 1, none⟩ (.string ⟨nm.toArray⟩)).setCell ⟨R.b, 4 + I.length * 5 + 2, none⟩ (.string ⟨hp.toArray⟩)).setCell ⟨R.b, 4 + I.length * 5 + 3, none⟩ (.slice la Ls.length lc)).setCell ⟨R.b, 4 + I.length * 5 + 4, none⟩ (.pointer (some ⟨X.s, 0, none⟩))).drewN q)
  case first =>
    go_region
    all_goals
      go_wp2_with fail
      go_meet
      exact ⟨1, rfl⟩
  case rest =>
  obtain ⟨q, rfl⟩ := hcut
  have hfin := ins5 HR7.out hl ⟨kd, nm, hp, lb, lo, la, lc, Ls, X.s⟩
  dsimp only at hfin
  generalize (((((w7.setCell ⟨R.b, 4 + I.length * 5, none⟩ (.int .i64 kd)).setCell ⟨R.b, 4 + I.length * 5 + 1, none⟩ (.string ⟨nm.toArray⟩)).setCell ⟨R.b, 4 + I.length * 5 + 2, none⟩ (.string ⟨hp.toArray⟩)).setCell ⟨R.b, 4 + I.length * 5 + 3, none⟩ (.slice la Ls.length lc)).setCell ⟨R.b, 4 + I.length * 5 + 4, none⟩ (.pointer (some ⟨X.s, 0, none⟩))) = w8 at *
  have HN8 : Hid (RgN R (I ++ [⟨kd, nm, hp, lb, lo, la, lc, Ls, X.s⟩]) nx sv (room - cel) (.slice a6 m6 k6) rf (w8.drewN q)) := RgN.below hfin.1 (below_drew _ _)
  have HC8 : Hid (Chg (fun y => y = R.b) w7 (w8.drewN q)) := hfin.2.trans (Chg.of_below (S := fun _ => False) (below_drew _ _)) (fun x k => k.elim)
  clear hfin d0 d1 d2 d3 e0 e1 e2 e3 e4 g0
  generalize w8.drewN q = w9 at *
  have HAd : Hid (∀ _ : Unit, Calls Tryz.prog 77 #[.pointer (some ⟨R.b, 3, none⟩), .int .i64 1] w9 fun e w' => ∃ r, e = .returned r ∧ Hid (RgH R (I ++ [⟨kd, nm, hp, lb, lo, la, lc, Ls, X.s⟩]) nx sv (room - cel) (.slice a6 m6 k6) rf w') ∧ Hid (Chg (fun y => y = R.b) w9 w')) := fun _ => by
    have hc := HN8.out.c3
    rw [List.length_append, List.length_singleton, Nat.add_sub_cancel] at hc
    refine Calls.mono (aadd_any R.b 3 (I.length : Int) 1 w9 hc.1 hc.2) ?_
    rintro e w' ⟨rfl, rfl⟩
    have hw : wrap64 ((I.length : Int) + 1) = (((I ++ [(⟨kd, nm, hp, lb, lo, la, lc, Ls, X.s⟩ : InS)]).length : Nat) : Int) := by rw [List.length_append, List.length_singleton]; unfold wrap64; omega
    rw [hw]
    exact ⟨_, rfl, HN8.out.done, Chg.set w9 ⟨R.b, 3, none⟩ _⟩
  go_wp2_with (go_at_call 77; with_reducible refine Calls.mono (HAd.out ()) ?_; rintro e w10 ⟨r, rfl, HR10, HC10⟩)
  go_ret2
  have hE := HE.out
  have hc10 : Chg (fun y => y = R.b) w7 w10 := HC8.out.trans HC10.out (fun x e => Or.inl e)
  have hbx : ¬ X.Blk R.b := fun k => by
    obtain ⟨cs, z, hb⟩ := HR7.out.ty
    exact HX7.out.no (by omega) hb (by decide) HR7.out.c0 rfl k
  refine ⟨X, .slice a6 m6 k6, rfl, ?_, ?_, ?_, ⟨HX3.out.1, rfl⟩, ?_, HGe.out, ?_, HFr.out⟩
  · dsimp only
    rw [hE]
    exact HR10.out
  · exact HM7.out.kept (row := some R.b) (grown_chg hc10) (by simpa using hmb)
  · exact chg_row hc10 HT7.out (fun x hx e => tv_apart HR7.out HM7.out HT7.out hx (Or.inl e))
  · exact HX7.out.chg hc10 (fun x hx e => by subst e; exact hbx hx)
  · exact ((Chg.of_below (S := fun y => y = R.b ∨ y = R.mp ∨ tv.ownBlock = some y) HBW3.out).trans HC7.out (fun x e => Or.inl e)).trans (hc10.mono (fun x e => Or.inl e)) (fun x e => Or.inl e)
end
end Go.Proofs.YtfnohbalkpponaaGreatDoor
/- lay, where there is no room. Own work of the verifier. -/
namespace Go.Proofs.YtfnohbalkpponaaGreatDoor
open Go.RowKit Go.Maps

section
variable {R : Rg} {I : List InS} {nx sv : Nat} {room : Int} {tv : Value} {rf : Int} {w : World}
theorem lay15_many (h : RgH R I nx sv room tv rf w) (hl : I.length = 256) (ser : Value) (kd : Int) (a b c : Value) :
    Calls Tryz.prog 38 #[.pointer (some ⟨R.b, 0, none⟩), ser, .agg #[.int .i64 kd, a, b, c]] w fun e w' => e = .returned (.tuple #[.int .i64 0, .int .i64 3]) ∧ Hid (Below w.heap.size w w') := by
  have HA : Hid (∀ o : Obj, Calls Tryz.prog 70 #[.pointer (some ⟨R.b, 0, none⟩)] (w.alloc o) fun e w' => e = .returned (.slice (some ⟨R.b, 4, none⟩) I.length 256) ∧ Hid (Below w.heap.size w w')) := fun o => by
    refine Calls.mono (all_any (h.below (bel1 w o))) ?_
    rintro e w' ⟨rfl, hb⟩
    exact ⟨rfl, bt (bel1 _ _) hb.out⟩
  have hle : (I.length : Int) = 256 := by omega
  clear h hl
  go_enter Tryz.func38, Tryz.ntmps38
  go_wp2_with (go_at_call 70; with_reducible refine Calls.mono (HA.out _) ?_; rintro e w1 ⟨rfl, HB1⟩)
  go_ret2
  exact ⟨rfl, HB1⟩
set_option maxHeartbeats 1000000 in
set_option maxRecDepth 100000 in
theorem lay15_room (h : RgH R I nx sv room tv rf w) (hl : I.length < 256) (ser : Value) (kd : Int) (a b c : Value) (hk : kd = 1 ∨ kd = 2 ∨ kd = 3) (hr : room < celF kd (R.n : Int) (R.p : Int)) :
    Calls Tryz.prog 38 #[.pointer (some ⟨R.b, 0, none⟩), ser, .agg #[.int .i64 kd, a, b, c]] w fun e w' => e = .returned (.tuple #[.int .i64 0, .int .i64 13]) ∧ Hid (Below w.heap.size w w') := by
  have HB0 : Hid (Below w.heap.size w (w.alloc (.cells #[.int .i64 kd, a, b, c] 41))) := bel1 _ _
  have HD0 : Hid ((w.alloc (.cells #[.int .i64 kd, a, b, c] 41)).heap[w.heap.size]? = some (.cells #[.int .i64 kd, a, b, c] 41 (0, 0))) := new_1 _ _
  have H0 := hidO (h.below HB0.out)
  have HCl : Hid (∀ W, _) := cellsK kd hk (R.n : Int) (R.p : Int)
  have HA : Hid (∀ _ : Unit, _) := fun _ => all_any H0.out
  go_enter Tryz.func38, Tryz.ntmps38
  go_upto_region 1 with fail
  generalize w.alloc (.cells #[.int .i64 kd, a, b, c] 41) = w0 at *
  have hne : ¬ (I.length : Int) = 256 := by omega
  go_upto_region 4 with (go_at_call 70; with_reducible refine Calls.mono (HA.out ()) ?_; rintro e w1 ⟨rfl, HB1⟩)
  have hz1 : KL w.heap.size R kd w1 := KL.kp ⟨by have := HD0.out; simp [World.cell?, this], H0.out.c0, H0.out.c1⟩ HB1
  have HBW : Hid (Below w.heap.size w w1) := bt HB0.out HB1.out
  clear HA
  generalize celF kd (R.n : Int) (R.p : Int) = cel at *
  go_cut [9] from 12 (fun c V => c = .int .i64 cel ∧ Hid (Below w1.heap.size w1 V))
  case first =>
    go_region_held3 (fun W => KL w.heap.size R kd W ∧ Below w1.heap.size w1 W)
      (first | with_reducible assumption | exact KL2 (by with_reducible assumption) (by with_reducible assumption) | exact ⟨hz1, Below.refl _ _⟩ | exact KL2 ⟨hz1, Below.refl _ _⟩ (below_drew _ _))
      (first | (go_at_call 75; with_reducible refine Calls.mono (HCl.out _) ?_; rintro e w2 ⟨rfl, HB2⟩))
    all_goals
      rename_i hG1
      go_wp2_with fail
      go_meet
      exact ⟨rfl, hG1.2⟩
  case rest =>
  obtain ⟨rfl, HB2⟩ := hcut
  have HBW2 : Hid (Below w.heap.size w wc) := bt HBW.out HB2.out
  have c7 := (h.below HBW2.out).cRoom
  clear h hz1 HD0 H0 HCl HB0 HB1 HB2 HBW
  go_wp2_with fail
  go_ret2
  exact ⟨rfl, HBW2⟩
end
end Go.Proofs.YtfnohbalkpponaaGreatDoor
/- Register: what it stands on. Own work of the verifier. -/
namespace Go.Proofs.YtfnohbalkpponaaGreatDoor
open Go.RowKit Go.Maps

/-- Labels that were copied are labels of a description. -/
theorem ownL_ds {B : Nat} {v : Value} {L : List (List UInt8 × List UInt8)} {W : World} (h : Va.OwnL B v L W) : ∃ ao b o cap, v = .slice ao L.length cap ∧ (L ≠ [] → ao = some ⟨b, o, none⟩) ∧ L.length ≤ cap ∧ cap ≤ 9223372036854775807 ∧ La.RowL W b o L ∧ (ao = none ∨ ao = some ⟨b, o, none⟩ ∧ B ≤ b) := by
  rcases h.2 with ⟨k, k2⟩ | ⟨g, cap, cur, k, hb, hg, h3, h4, h5, h6⟩
  · have : L = [] := List.length_eq_zero_iff.1 k2
    subst this
    exact ⟨none, 0, 0, 0, k, fun k => absurd rfl k, Nat.le_refl _, by omega, (fun i hi => absurd hi (Nat.not_lt_zero _)), Or.inl rfl⟩
  · refine ⟨some ⟨g, 0, none⟩, g, 0, cap, k, fun _ => rfl, h3, by simp only [maxLen] at h4; exact h4, (fun i hi => ?_), Or.inr ⟨rfl, hb⟩⟩
    obtain ⟨f1, f2⟩ := Va.flL_get L i hi
    have hlen : (Va.flL L).length = L.length * 2 := Va.flL_length L
    have e : ∀ j u, (Va.flL L)[j]? = some u → W.cell? ⟨g, j, none⟩ = some u := fun j u hu => by
      have hj : j < L.length * 2 := by rw [← hlen]; exact (List.getElem?_eq_some_iff.1 hu).1
      rw [← h6, List.getElem?_take, if_pos hj] at hu
      unfold World.cell?
      simp only [hg]
      simpa using hu
    rw [Nat.zero_add]
    exact ⟨e _ _ f1, e _ _ f2⟩
/-- The text of a series, as the map's key. -/
def serT (x : InS) : List UInt8 := La.printT x.nm x.D
/-- What the map of numbers says. -/
def MapIs (D : DataW Unit) (I : List InS) : Prop := IsMap D ∧ ∀ s : List UInt8, (Maps.has D (.string s) = true ↔ ∃ i, ∃ hi : i < I.length, serT I[i] = s) ∧ ∀ i (hi : i < I.length), serT I[i] = s → D.atKey (.string s) (.lit (.int .i64 0)) = .lit (.int .i64 (i : Int))
theorem mapIs_nil : MapIs (.map []) [] := ⟨isMap_empty, fun s => ⟨⟨fun h => (by cases h), fun ⟨i, hi, _⟩ => absurd hi (Nat.not_lt_zero _)⟩, fun i hi => absurd hi (Nat.not_lt_zero _)⟩⟩
theorem MapIs.put {D : DataW Unit} {I : List InS} (h : MapIs D I) (x : InS) (hn : ¬ Maps.has D (.string (serT x)) = true) : MapIs (D.put (.string (serT x)) (.lit (.int .i64 (I.length : Int)))) (I ++ [x]) := by
  have hk : WideAt.IsKeyLit (.string (serT x)) := trivial
  refine ⟨h.1.put _ _, fun s => ?_⟩
  have hno : ∀ i (hi : i < I.length), serT I[i] ≠ serT x := fun i hi e => hn ((h.2 (serT x)).1.2 ⟨i, hi, e⟩)
  by_cases e : s = serT x
  · subst e
    refine ⟨⟨fun _ => ⟨I.length, by simp, by simp⟩, fun _ => has_put_same h.1 hk _⟩, fun i hi hs => ?_⟩
    have hil : i = I.length := by
      rw [List.length_append, List.length_singleton] at hi
      by_cases k : i < I.length
      · rw [List.getElem_append_left k] at hs
        exact absurd hs (hno i k)
      · omega
    rw [atKey_put_same h.1 hk, hil]
  · have hne : (Lit.string s) ≠ .string (serT x) := fun k => e (by injection k)
    rw [has_put_other hne, (h.2 s).1]
    refine ⟨⟨fun ⟨i, hi, hs⟩ => ⟨i, by simp; omega, by rw [List.getElem_append_left hi]; exact hs⟩, fun ⟨i, hi, hs⟩ => ?_⟩, fun i hi hs => ?_⟩
    · rw [List.length_append, List.length_singleton] at hi
      by_cases k : i < I.length
      · rw [List.getElem_append_left k] at hs
        exact ⟨i, k, hs⟩
      · have : i = I.length := by omega
        subst this
        rw [List.getElem_append_right (Nat.le_refl _)] at hs
        simp at hs
        exact absurd hs.symm e
    · rw [atKey_put_other hne]
      rw [List.length_append, List.length_singleton] at hi
      by_cases k : i < I.length
      · rw [List.getElem_append_left k] at hs
        exact (h.2 s).2 i k hs
      · have : i = I.length := by omega
        subst this
        rw [List.getElem_append_right (Nat.le_refl _)] at hs
        simp at hs
        exact absurd hs.symm e
end Go.Proofs.YtfnohbalkpponaaGreatDoor
/- isUnlike: is a description none of the family that has its name? Own work of the verifier. -/
namespace Go.Proofs.YtfnohbalkpponaaGreatDoor
open Go.RowKit

section
variable {R : Rg} {I : List InS} {nx sv : Nat} {room : Int} {tv : Value} {rf : Int} {w : World}
/-- What IndexFunc tells. -/
def IxQ (kd : Int) (nm hp : List UInt8) (I : List InS) (w : World) (e : Ending) (w' : World) : Prop := ∃ r : Int, e = .returned (.int .i64 r) ∧ Hid (decide (0 ≤ r) = I.any (unF kd nm hp)) ∧ Hid (Below w.heap.size w w')
theorem any_no {I : List InS} {f : InS → Bool} (h : ∀ j (hj : j < I.length), f I[j] = false) : I.any f = false := by
  rw [List.any_eq_false]
  intro x hx
  obtain ⟨j, hj, rfl⟩ := List.getElem_of_mem hx
  rw [h j hj]
  simp
theorem any_at {I : List InS} {f : InS → Bool} {j : Nat} (hj : j < I.length) (h : f I[j] = true) : I.any f = true := List.any_eq_true.2 ⟨_, List.getElem_mem hj, h⟩
set_option maxHeartbeats 1000000 in
set_option maxRecDepth 100000 in
theorem index_any (h : RgH R I nx sv room tv rf w) (kd : Int) (nm hp : List UInt8) (v : Value) (g : Nat) (hg : w.heap[g]? = some (.cells #[.int .i64 kd, .string ⟨nm.toArray⟩, .string ⟨hp.toArray⟩, v] 41 (0, 0))) :
    Calls Tryz.prog 116 #[.slice (some ⟨R.b, 4, none⟩) I.length 256, .func (.func 71) #[] #[.pointer (some ⟨g, 0, none⟩)]] w fun e w' => IxQ kd nm hp I w e w' := by
  have HU : Hid (∀ W, Below w.heap.size w W → ∀ x : InS, Calls Tryz.prog 71 #[.agg #[.int .i64 x.kd, .string ⟨x.nm.toArray⟩, .string ⟨x.hp.toArray⟩, .slice x.la x.D.length x.lc, .pointer (some ⟨x.s, 0, none⟩)], .pointer (some ⟨g, 0, none⟩)] W fun e w' => e = .returned (.bool (unF kd nm hp x)) ∧ Hid (Below w.heap.size w w')) := fun W hW x => by
    have hl : g < w.heap.size := (Array.getElem?_eq_some_iff.1 hg).1
    refine Calls.mono (unl1_any x kd nm hp v g _ rfl W ((hW.block g hl).trans hg)) ?_
    rintro e w' ⟨rfl, hb⟩
    exact ⟨rfl, bt hW hb.out⟩
  have hl := h.len
  have HI : Hid (∀ W, Below w.heap.size w W → ∀ i (hi : i < I.length), _) := fun W hW i hi => (h.below hW).ins i hi
  clear hg h
  go_enter Tryz.func116, Tryz.ntmps116
  go_upto_region 2 with fail
  go_loopw [8] (fun c W => ∃ i : Nat, i ≤ I.length ∧ c = .int .i64 (i : Int) ∧ Hid (Below w.heap.size w W) ∧ Hid (∀ j (hj : j < I.length), j < i → unF kd nm hp I[j] = false)) (fun c _ => I.length - (intOf c).toNat)
  case atStart => exact ⟨0, by omega, rfl, Below.refl _ _, fun j _ hj => by omega⟩
  case round =>
    obtain ⟨i, hi, rfl, HB, HJ⟩ := hrel
    by_cases hlt : i < I.length
    · as_aux_lemma =>
      have hlt' : (i : Int) < (I.length : Int) := by omega
      obtain ⟨c0, c1, c2, c3, c4⟩ := HI.out wr HB.out i hlt
      have HU1 := hidO (HU.out wr HB.out I[i])
      cases hu : unF kd nm hp I[i] with
      | true =>
       as_aux_lemma =>
        rw [hu] at HU1
        have HE : Hid (decide (0 ≤ (i : Int)) = I.any (unF kd nm hp)) := by
          unfold Hid
          rw [any_at hlt hu]
          simp
        clear hu HU HI HJ
        generalize I[i] = x at *
        go_wp2_with (go_at_call 71; with_reducible refine Calls.mono HU1.out ?_; rintro e w1 ⟨rfl, HB1⟩)
        go_ret
        exact ⟨_, rfl, HE, HB1⟩
      | false =>
       as_aux_lemma =>
        rw [hu] at HU1
        have HJ1 : Hid (∀ j (hj : j < I.length), j < i + 1 → unF kd nm hp I[j] = false) := fun j hj hji => by
          by_cases e : j = i
          · subst e; exact hu
          · exact HJ.out j hj (by omega)
        clear hu HU HI HJ
        generalize I[i] = x at *
        go_wp2_with (go_at_call 71; with_reducible refine Calls.mono HU1.out ?_; rintro e w1 ⟨rfl, HB1⟩)
        exact ⟨⟨i + 1, by omega, congrArg (Value.int .i64) (by omega), HB1, HJ1⟩, by simp [intOf]; omega⟩
    · as_aux_lemma =>
      have hlt' : ¬ (i : Int) < (I.length : Int) := by omega
      have HE : Hid (decide ((0 : Int) ≤ -1) = I.any (unF kd nm hp)) := by
        unfold Hid
        rw [any_no (fun j hj => HJ.out j hj (by omega))]
        simp
      clear HU HI HJ
      go_wp2_with fail
      go_ret
      exact ⟨_, rfl, HE, HB⟩
theorem contains_any (h : RgH R I nx sv room tv rf w) (kd : Int) (nm hp : List UInt8) (v : Value) (g : Nat) (hg : w.heap[g]? = some (.cells #[.int .i64 kd, .string ⟨nm.toArray⟩, .string ⟨hp.toArray⟩, v] 41 (0, 0))) :
    Calls Tryz.prog 69 #[.slice (some ⟨R.b, 4, none⟩) I.length 256, .func (.func 71) #[] #[.pointer (some ⟨g, 0, none⟩)]] w fun e w' => e = .returned (.bool (I.any (unF kd nm hp))) ∧ Hid (Below w.heap.size w w') := by
  have HX : Hid (∀ _ : Unit, Calls Tryz.prog 116 #[.slice (some ⟨R.b, 4, none⟩) I.length 256, .func (.func 71) #[] #[.pointer (some ⟨g, 0, none⟩)]] w fun e w' => ∃ r : Int, e = .returned (.int .i64 r) ∧ Hid (decide (0 ≤ r) = I.any (unF kd nm hp)) ∧ Hid (Below w.heap.size w w')) := fun _ => index_any h kd nm hp v g hg
  clear h hg
  generalize I.any (unF kd nm hp) = b at *
  go_enter Tryz.func69, Tryz.ntmps69
  go_wp2_with (go_at_call 116; with_reducible refine Calls.mono (HX.out ()) ?_; rintro e w1 ⟨r, rfl, HE, HB1⟩)
  go_ret
  exact ⟨retB HE.out, HB1⟩
theorem unlike_any (h : RgH R I nx sv room tv rf w) (kd : Int) (nm hp : List UInt8) (v : Value) :
    Calls Tryz.prog 36 #[.pointer (some ⟨R.b, 0, none⟩), .agg #[.int .i64 kd, .string ⟨nm.toArray⟩, .string ⟨hp.toArray⟩, v]] w fun e w' => e = .returned (.bool (I.any (unF kd nm hp))) ∧ Hid (Below w.heap.size w w') := by
  have hmf : ∀ (fn : Fn) (first cap : Array Value) (w : World), (Instr.makeFunc fn first cap).run Tryz.prog w = .ok (.func fn first cap) w := fun _ _ _ _ => rfl
  have hb0 : Below w.heap.size w (w.alloc (.cells #[.int .i64 kd, .string ⟨nm.toArray⟩, .string ⟨hp.toArray⟩, v] 41)) := bel1 _ _
  have hn : (w.alloc (.cells #[.int .i64 kd, .string ⟨nm.toArray⟩, .string ⟨hp.toArray⟩, v] 41)).heap[w.heap.size]? = some (.cells #[.int .i64 kd, .string ⟨nm.toArray⟩, .string ⟨hp.toArray⟩, v] 41 (0, 0)) := new_1 _ _
  have h0 := h.below hb0
  have HA : Hid (∀ _ : Unit, _) := fun _ => all_any h0
  have HC : Hid (∀ W, Below (w.alloc (.cells #[.int .i64 kd, .string ⟨nm.toArray⟩, .string ⟨hp.toArray⟩, v] 41)).heap.size (w.alloc (.cells #[.int .i64 kd, .string ⟨nm.toArray⟩, .string ⟨hp.toArray⟩, v] 41)) W → Calls Tryz.prog 69 #[.slice (some ⟨R.b, 4, none⟩) I.length 256, .func (.func 71) #[] #[.pointer (some ⟨w.heap.size, 0, none⟩)]] W fun e w' => e = .returned (.bool (I.any (unF kd nm hp))) ∧ Hid (Below w.heap.size w w')) := fun W hW => by
    refine Calls.mono (contains_any (h0.below hW) kd nm hp v w.heap.size ((hW.block _ (by simp)).trans hn)) ?_
    rintro e w' ⟨rfl, hb⟩
    exact ⟨rfl, bt hb0 (bt hW hb.out)⟩
  clear h hb0 hn h0
  go_enter Tryz.func36, Tryz.ntmps36
  go_wp2_with (first
    | (go_at_call 70; with_reducible refine Calls.mono (HA.out ()) ?_; rintro e w1 ⟨rfl, HB1⟩)
    | (go_at_call 69; with_reducible refine Calls.mono (HC.out _ HB1.out) ?_; rintro e w2 ⟨rfl, HB2⟩))
  go_ret
  exact ⟨rfl, HB2⟩
end
end Go.Proofs.YtfnohbalkpponaaGreatDoor
/- Register. Own work of the verifier. -/
namespace Go.Proofs.YtfnohbalkpponaaGreatDoor
open Go.RowKit Go.Maps

/-- A registry as Register finds it. -/
structure RegS (R : Rg) (I : List InS) (t : Nat) (room : Int) (tv : Value) (rf : Int) (TP : List PV) (D : DataW Unit) (w : World) : Prop where
  rg : RgH R I t t room tv rf w
  mp : MpW w R.mp I.length D
  md : MapIs D I
  tot : TvW w tv TP
  len : TP.length = I.length
  t0 : TP = [] → tv = .slice none 0 0
  n1 : 1 ≤ R.n
  n2 : R.n ≤ 16
  p1 : 1 ≤ R.p
  p2 : R.p ≤ 14
  rm : room ≤ 1048576
/-- What Register tells of a description that may be, where it lays no instrument. -/
inductive RegC (R : Rg) (I : List InS) (room : Int) (d : La.Ds) : Int → Int → Prop
  | unlike : I.any (unF d.kind d.name d.help) = true → RegC R I room d 0 12
  | old (i : Nat) (hi : i < I.length) : I.any (unF d.kind d.name d.help) = false → serT I[i] = La.printT d.name d.labels → RegC R I room d (i : Int) 0
  | many : I.any (unF d.kind d.name d.help) = false → (∀ i (hi : i < I.length), serT I[i] ≠ La.printT d.name d.labels) → I.length = 256 → RegC R I room d 0 3
  | room : I.any (unF d.kind d.name d.help) = false → (∀ i (hi : i < I.length), serT I[i] ≠ La.printT d.name d.labels) → I.length < 256 → room < celF d.kind (R.n : Int) (R.p : Int) → RegC R I room d 0 13
/-- What Register tells and leaves. -/
inductive RegQ (R : Rg) (I : List InS) (t : Nat) (room : Int) (tv : Value) (rf : Int) (TP : List PV) (D : DataW Unit) (d : La.Ds) (w : World) (e : Ending) (w' : World) : Prop
  | bad : La.chkD d ≠ 0 → e = .returned (.tuple #[.int .i64 0, .int .i64 (La.chkD d)]) → Below w.heap.size w w' → RegQ R I t room tv rf TP D d w e w'
  | stay (id er : Int) : La.chkD d = 0 → RegC R I room d id er → e = .returned (.tuple #[.int .i64 id, .int .i64 er]) → RgH R I (t + 1) (t + 1) room tv rf w' → Chg (fun y => y = R.b) w w' → RegQ R I t room tv rf TP D d w e w'
  | new (X : SlK) (tv' : Value) (lb lo : Nat) (la : Option Addr) (lc : Nat) : La.chkD d = 0 → I.any (unF d.kind d.name d.help) = false → (∀ i (hi : i < I.length), serT I[i] ≠ La.printT d.name d.labels) → I.length < 256 → celF d.kind (R.n : Int) (R.p : Int) ≤ room → e = .returned (.tuple #[.int .i64 (I.length : Int), .int .i64 0]) →
      LayD R I (t + 1) (t + 1) room tv rf TP D (La.printT d.name d.labels) ⟨d.kind, d.name, d.help, lb, lo, la, lc, d.labels, X.s⟩ X tv' w w' → La.RowL w' lb lo d.labels → (d.labels ≠ [] → la = some ⟨lb, lo, none⟩) → d.labels.length ≤ lc → lc ≤ 9223372036854775807 → Va.OwnL w.heap.size (.slice la d.labels.length lc) d.labels w' → RegQ R I t room tv rf TP D d w e w'
theorem own_ge {W : World} {B : Nat} {e : TypeId} {s n : Nat} {v : Value} {xs : List Value} (h : W.ownsRow B e s v n xs) {x : Nat} (hx : v.ownBlock = some x) : B ≤ x := by
  rcases h.2 with ⟨k, _⟩ | ⟨g, cap, cur, k, hb, _⟩
  · rw [k] at hx; cases hx
  · rw [k] at hx
    have : g = x := by simpa [Value.ownBlock] using hx
    omega
/-- What is behind lay, when the lock is given. -/
theorem lay_fin {R : Rg} {I : List InS} {t : Nat} {room : Int} {tv tv' : Value} {rf : Int} {TP : List PV} {D : DataW Unit} {ser : List UInt8} {x : InS} {X : SlK} {w w6 w7 w8 : World} (hR : RgH R I t t room tv rf w) (hM : MpW w R.mp I.length D) (_hV : TvW w tv TP) (hn : 1 ≤ R.n) (h6 : Chg (fun y => y = R.b) w w6) (hL : LayD R I (t + 1) t room tv rf TP D ser x X tv' w6 w7) (hR8 : RgH R (I ++ [x]) (t + 1) (t + 1) (room - celF x.kd (R.n : Int) (R.p : Int)) tv' rf w8) (h8 : Chg (fun y => y = R.b) w7 w8) :
    LayD R I (t + 1) (t + 1) room tv rf TP D ser x X tv' w w8 ∧ Chg (fun y => y = R.b ∨ y = R.mp ∨ tv.ownBlock = some y) w6 w8 := by
  have hmb := mp_ne hR hM
  have hc := hL.chg.trans (h8.mono (fun x e => (Or.inl e : x = R.b ∨ x = R.mp ∨ tv.ownBlock = some x))) (fun x e => Or.inl e)
  have hbx : ¬ X.Blk R.b := fun k => by
    obtain ⟨cs, z, hb⟩ := hL.rg.ty
    exact hL.sl.no (by omega) hb (by decide) hL.rg.c0 rfl k
  refine ⟨⟨hR8, hL.mp.kept (row := some R.b) (grown_chg h8) (by simpa using hmb), chg_row h8 hL.tot (fun x hx e => tv_apart hL.rg hL.mp hL.tot hx (Or.inl e)), hL.kd, hL.sl.chg h8 (fun x hx e => by subst e; exact hbx hx), fun g hg => Nat.le_trans h6.size (hL.ge g hg), ?_, hL.fr.imp id (fun k x hx => Nat.le_trans h6.size (k x hx))⟩, hc⟩
  exact (h6.mono (fun x e => (Or.inl e : x = R.b ∨ x = R.mp ∨ tv.ownBlock = some x))).trans hc (fun x e => Or.inl e)
theorem rowL_fin {R : Rg} {I : List InS} {t : Nat} {room : Int} {tv : Value} {rf : Int} {TP : List PV} {D : DataW Unit} {n B lb lo : Nat} {a : Option Addr} {L : List (List UInt8 × List UInt8)} {w w6 w8 : World} (q4 : La.RowL w6 lb lo L) (q1 : L ≠ [] → a = some ⟨lb, lo, none⟩) (q5 : a = none ∨ a = some ⟨lb, lo, none⟩ ∧ B ≤ lb) (hB : w.heap.size ≤ B) (hR : RgH R I t t room tv rf w) (hM : MpW w R.mp n D) (hV : TvW w tv TP) (hc : Chg (fun y => y = R.b ∨ y = R.mp ∨ tv.ownBlock = some y) w6 w8) : La.RowL w8 lb lo L := fun i hi => by
  have hne : L ≠ [] := fun e => by subst e; exact absurd hi (Nat.not_lt_zero _)
  have hlb : B ≤ lb := by
    rcases q5 with k | k
    · rw [q1 hne] at k; cases k
    · exact k.2
  have hS : ¬ (lb = R.b ∨ lb = R.mp ∨ tv.ownBlock = some lb) := fun k => by
    rcases k with k | k | k
    · have := hR.lt; omega
    · have := hM.lt; omega
    · obtain ⟨cs, hg⟩ := own_blk hV k
      have := (Array.getElem?_eq_some_iff.1 hg).1
      omega
  obtain ⟨h1, h2⟩ := q4 i hi
  exact ⟨hc.cell h1 hS, hc.cell h2 hS⟩
theorem own_fin {R : Rg} {I : List InS} {t : Nat} {room : Int} {tv u : Value} {rf : Int} {TP : List PV} {D : DataW Unit} {n B : Nat} {e : TypeId} {s m : Nat} {xs : List Value} {w w6 : World} (h : w6.ownsRow B e s u m xs) {x : Nat} (hx : u.ownBlock = some x) (hB : w.heap.size ≤ B) (hR : RgH R I t t room tv rf w) (hM : MpW w R.mp n D) (hV : TvW w tv TP) (k : x = R.b ∨ x = R.mp ∨ tv.ownBlock = some x) : False := by
  have hge := own_ge h hx
  rcases k with k | k | k
  · have := hR.lt; omega
  · have := hM.lt; omega
  · obtain ⟨cs, hg⟩ := own_blk hV k
    have := (Array.getElem?_eq_some_iff.1 hg).1
    omega
theorem own_leT {W : World} {B B' : Nat} {e : TypeId} {s n : Nat} {v : Value} {xs : List Value} (h : W.ownsRow B e s v n xs) (hb : B' ≤ B) : W.ownsRow B' e s v n xs := by
  rcases h.2 with k | ⟨g, cap, cur, k, hg, rest⟩
  · exact ⟨h.1, Or.inl k⟩
  · exact ⟨h.1, Or.inr ⟨g, cap, cur, k, by omega, rest⟩⟩
theorem zero15 (w : World) : (zeroValue 3).run Tryz.prog w = .ok (.int .i64 0) w := by kernel_rfl
section
variable {R : Rg} {I : List InS} {t : Nat} {room : Int} {tv : Value} {rf : Int} {TP : List PV} {D : DataW Unit} {w : World}
set_option maxHeartbeats 4000000 in
set_option maxRecDepth 100000 in
theorem reg15 (H : RegS R I t room tv rf TP D w) (ht : t < 4611686018427387904) (d : La.Ds) (lv : Value) (hd : La.DsC w d (.agg #[.int .i64 d.kind, .string ⟨d.name.toArray⟩, .string ⟨d.help.toArray⟩, lv])) (hs : La.DsS d) (hS : Va.SLb w lv d.labels) (hll : d.labels.length ≤ 1048576) (hT : La.chkD d = 0 → (La.printT d.name d.labels).length ≤ 140737488355328) (hk : La.chkD d = 0 → d.kind = 1 ∨ d.kind = 2 ∨ d.kind = 3) :
    Calls Tryz.prog 11 #[.pointer (some ⟨R.b, 0, none⟩), .pointer none, .agg #[.int .i64 d.kind, .string ⟨d.name.toArray⟩, .string ⟨d.help.toArray⟩, lv]] w fun e w' => RegQ R I t room tv rf TP D d w e w' := by
  obtain ⟨ao, lbb, lbo, cap, e0, hao, hc1, hc2, hrow⟩ := id hd
  have e1 : lv = .slice ao d.labels.length cap := by injection e0 with e0; simpa using e0
  subst e1
  have HB0 : Hid (Below w.heap.size w (w.alloc (.cells #[.int .i64 d.kind, .string ⟨d.name.toArray⟩, .string ⟨d.help.toArray⟩, .slice ao d.labels.length cap] 41))) := bel1 _ _
  have HD0 : Hid ((w.alloc (.cells #[.int .i64 d.kind, .string ⟨d.name.toArray⟩, .string ⟨d.help.toArray⟩, .slice ao d.labels.length cap] 41)).heap[w.heap.size]? = some (.cells #[.int .i64 d.kind, .string ⟨d.name.toArray⟩, .string ⟨d.help.toArray⟩, .slice ao d.labels.length cap] 41 (0, 0))) := new_1 _ _
  have HCk : Hid (∀ _ : Unit, Calls Tryz.prog 35 #[.agg #[.int .i64 d.kind, .string ⟨d.name.toArray⟩, .string ⟨d.help.toArray⟩, .slice ao d.labels.length cap]] (w.alloc (.cells #[.int .i64 d.kind, .string ⟨d.name.toArray⟩, .string ⟨d.help.toArray⟩, .slice ao d.labels.length cap] 41)) fun e w' => e = .returned (.int .i64 (La.chkD d)) ∧ Hid (Below (w.alloc (.cells #[.int .i64 d.kind, .string ⟨d.name.toArray⟩, .string ⟨d.help.toArray⟩, .slice ao d.labels.length cap] 41)).heap.size (w.alloc (.cells #[.int .i64 d.kind, .string ⟨d.name.toArray⟩, .string ⟨d.help.toArray⟩, .slice ao d.labels.length cap] 41)) w')) := fun _ => La.ccheck_any d _ _ (hd.below HB0.out) hs
  have hlt := H.rg.lt
  generalize hz : La.chkD d = z at *
  have HZ := hidO hz
  clear hz
  go_enter_defers Tryz.func11, Tryz.ntmps11
  go_upto_region 1 with fail
  obtain ⟨d0, d1, d2, d3⟩ := four_c HD0.out
  by_cases hz0 : z = 0
  · subst hz0
    have HT0 := hidO (hT rfl)
    have HK0 := hidO (hk rfl)
    clear hT hk
    have HS0 := hidO (hS.below HB0.out)
    have H0 := hidO (H.rg.below HB0.out)
    have hH := hidO H
    clear H hd hS hao hrow hc1 hc2
    generalize w.alloc (.cells #[.int .i64 d.kind, .string ⟨d.name.toArray⟩, .string ⟨d.help.toArray⟩, .slice ao d.labels.length cap] 41) = w0 at *
    have HK1 : Hid (∀ W, Below w0.heap.size w0 W → W.cell? ⟨w.heap.size, 3, none⟩ = some (.slice ao d.labels.length cap) ∧ Va.SLb W (.slice ao d.labels.length cap) d.labels) := fun W hW => ⟨kp d3 hW, HS0.out.below hW⟩
    go_upto_region 4 with (go_at_call 35; with_reducible refine Calls.mono (HCk.out ()) ?_; rintro e w1 ⟨rfl, HB1⟩; obtain ⟨c3, sl3⟩ := HK1.out _ HB1.out)
    have HSL := hidO sl3
    clear sl3 d0 d1 d2 d3 HK1 HCk
    have HF1 : Hid (∀ W, Below w1.heap.size w1 W → W.frozen? ⟨w.heap.size, 3, none⟩ = false ∧ W.cell? ⟨w.heap.size, 3, none⟩ = some (.slice ao d.labels.length cap)) := fun W hW => by
      have hb := (bt HB1.out hW)
      have := (hb.block _ (Array.getElem?_eq_some_iff.1 HD0.out).1).trans HD0.out
      exact ⟨by simp [World.frozen?, this], by simp [World.cell?, this]⟩
    go_upto_region 5 with (at_builtin; refine Va.wpList_run _ rfl _ _ 39 rfl (.slice none 0 0) (.slice ao d.labels.length cap) rfl rfl (Va.run_copyL HSL.out hll _) ?_; intro l2 w2 hq2; obtain ⟨f3, c3'⟩ := HF1.out _ hq2.2; obtain ⟨a2, _, _, k2, rfl, _⟩ := ownL_ds hq2.1; have HQ2 := hidO hq2; clear hq2)
    have hl0 : w.heap.size < w0.heap.size := (Array.getElem?_eq_some_iff.1 HD0.out).1
    have hl1 : w0.heap.size ≤ w1.heap.size := HB1.out.size
    have hs3 := Chg.set w2 ⟨w.heap.size, 3, none⟩ (.slice a2 d.labels.length k2)
    have hb2 : Below w.heap.size w w2 := bt (bt HB0.out HB1.out) HQ2.out.2
    have HB3 : Hid (Below w.heap.size w (w2.setCell ⟨w.heap.size, 3, none⟩ (.slice a2 d.labels.length k2))) := hb2.trans (hs3.below (by have := hb2.size; omega) (fun x hx => by have : x = w.heap.size := hx; omega))
    have HO3 : Hid (Va.OwnL w1.heap.size (.slice a2 d.labels.length k2) d.labels (w2.setCell ⟨w.heap.size, 3, none⟩ (.slice a2 d.labels.length k2))) := chg_row hs3 HQ2.out.1 (fun x hx e => by
      have := own_ge HQ2.out.1 hx
      have e' : x = w.heap.size := e
      omega)
    have HD3 : Hid ((w2.setCell ⟨w.heap.size, 3, none⟩ (.slice a2 d.labels.length k2)).heap[w.heap.size]? = some (.cells #[.int .i64 d.kind, .string ⟨d.name.toArray⟩, .string ⟨d.help.toArray⟩, .slice a2 d.labels.length k2] 41 (0, 0))) := by
      have h2 := ((bt HB1.out HQ2.out.2).block _ hl0).trans HD0.out
      unfold Hid
      rw [heap_setCell_same _ _ 3 _ _ _ h2]
      rfl
    clear hs3 hb2 HQ2 HF1 f3 c3' c3 HSL HS0 H0 HD0
    generalize w2.setCell ⟨w.heap.size, 3, none⟩ (.slice a2 d.labels.length k2) = w3 at *
    have HTk : Hid (∀ _ : Unit, _) := fun _ => ltake_any (hH.out.rg.below HB3.out) ht
    have HU : Hid (∀ W, RgH R I (t + 1) t room tv rf W → _) := fun W h => unlike_any (w := W) h d.kind d.name d.help (.slice a2 d.labels.length k2)
    have HD4 : Hid (∀ W, Chg (fun x => x = R.b) w3 W → W.cell? ⟨w.heap.size, 0, none⟩ = some (.int .i64 d.kind) ∧ W.cell? ⟨w.heap.size, 1, none⟩ = some (.string ⟨d.name.toArray⟩) ∧ W.cell? ⟨w.heap.size, 2, none⟩ = some (.string ⟨d.help.toArray⟩) ∧ W.cell? ⟨w.heap.size, 3, none⟩ = some (.slice a2 d.labels.length k2)) := fun W hW => four_c (hW.at_ HD3.out (by omega))
    go_upto_region 7 with (go_at_call 31; with_reducible refine Calls.mono (HTk.out ()) ?_; rintro e w4 ⟨rfl, HR4, HC4⟩; obtain ⟨c0, c1, c2, c3⟩ := HD4.out _ HC4.out)
    have hz := HZ.out
    have HG : Hid (∀ W, RgH R I (t + 1) t room tv rf W → _) := fun W hR => lgive_any .returning hR ht
    have HCw : Hid (Chg (fun y => y = R.b) w w4) := (Chg.of_below (S := fun y => y = R.b) HB3.out).trans HC4.out (fun x e => Or.inl e)
    have HO4 : Hid (Va.OwnL w1.heap.size (.slice a2 d.labels.length k2) d.labels w4) := chg_row HC4.out HO3.out (fun x hx e => by
      have := own_ge HO3.out hx
      omega)
    have HRw := hidO (HU.out w4 HR4.out)
    clear HU HTk HO3
    cases hu : I.any (unF d.kind d.name d.help) with
    | true =>
      rw [hu] at HRw
      have HUu := hidO hu
      clear hu hz
      go_wp2_with (go_at_call 36; with_reducible refine Calls.mono HRw.out ?_; rintro e w5 ⟨rfl, HB5⟩)
      refine leaves_cons (f := 32) (args := #[.pointer (some ⟨R.b, 1284, none⟩), .pointer none]) (by simp) (by simp [go_sem]) ?_
      refine CallsD.mono (HG.out _ (HR4.out.below HB5.out)) ?_
      rintro e u' w6 ⟨rfl, rfl, HR6, HC6⟩
      exact ⟨_, results_tmp2 rfl _ _ _, .stay 0 12 HZ.out (.unlike HUu.out) rfl HR6.out ((HCw.out.trans (Chg.of_below (S := fun y => y = R.b) HB5.out) (fun x e => Or.inl e)).trans HC6.out (fun x e => Or.inl e))⟩
    | false =>
      rw [hu] at HRw
      have HUu := hidO hu
      clear hu hz
      have HPr : Hid (∀ W, Below w4.heap.size w4 W → Calls Tryz.prog 37 #[.string ⟨d.name.toArray⟩, .slice a2 d.labels.length k2] W fun r w' => r = .returned (.string ⟨(La.printT d.name d.labels).toArray⟩) ∧ Hid (Below w4.heap.size w4 w')) := fun W hW => by
        have hO : Va.OwnL w1.heap.size (.slice a2 d.labels.length k2) d.labels W := chg_row (Chg.of_below (S := fun _ => False) hW) HO4.out (fun _ _ k => k)
        obtain ⟨a3, b3, o3, k3, e3, q1, q2, q3, q4, q5⟩ := ownL_ds hO
        injection e3 with e31 e32 e33
        subst e31 e33
        refine Calls.mono (La.cprint_any d.name a2 b3 o3 k2 d.labels q1 (by omega) (fun a ha => by have := (hs.2.2 a ha).2; omega) HT0.out W q4) ?_
        rintro e w' ⟨rfl, hb⟩
        exact ⟨rfl, bt hW hb⟩
      go_upto_region 9 with (go_at_call 36; with_reducible refine Calls.mono HRw.out ?_; rintro e w5 ⟨rfl, HB5⟩; have c1 := kp c1 HB5.out; have c3 := kp c3 HB5.out)
      have HM5 : Hid (∀ W, Below w4.heap.size w4 W → W.cell? ⟨R.b, 1286, none⟩ = some (.map (some R.mp)) ∧ MpW W R.mp I.length D) := fun W hW => ⟨(HR4.out.below hW).cMp, (hH.out.mp.kept (row := some R.b) (grown_chg HCw.out) (by simpa using mp_ne hH.out.rg hH.out.mp)).kept (row := none) (grown_bel hW) (by simp)⟩
      go_upto_region 10 with (go_at_call 37; with_reducible refine Calls.mono (HPr.out _ HB5.out) ?_; rintro e w6 ⟨rfl, HB6⟩; obtain ⟨c6, hm6⟩ := HM5.out _ HB6.out; have HM6 := hidO hm6; clear hm6)
      generalize hser : La.printT d.name d.labels = ser at *
      have HSr := hidO hser
      clear hser
      go_upto_region 11 with (at_lookup; refine wpList_lookup_own_ok_int _ rfl _ _ 79 rfl 9 3 .i64 law15 Tryz.underlying79 Tryz.underlying3 (zero15 _) R.mp I.length D rfl HM6.out _ (.string ser) rfl (key15 ser HT0.out) ?_; intro c hat hwf)
      have HW6 : Hid (Chg (fun y => y = R.b) w w6) := HCw.out.trans (Chg.of_below (S := fun y => y = R.b) HB6.out) (fun x e => Or.inl e)
      have HR6 := hidO (HR4.out.below HB6.out)
      cases hh : Maps.has D (.string ser) with
      | true =>
        obtain ⟨i, hi, hsi⟩ := (hH.out.md.2 ser).1.1 hh
        have hci : c = (i : Int) := by
          have := (hH.out.md.2 ser).2 i hi hsi
          rw [hat] at this
          injection this with this
          injection this
        subst hci
        have HI := hidO hsi
        clear hat hwf hh hsi
        go_wp2_with fail
        refine leaves_cons (f := 32) (args := #[.pointer (some ⟨R.b, 1284, none⟩), .pointer none]) (by simp) (by simp [go_sem]) ?_
        refine CallsD.mono (HG.out _ HR6.out) ?_
        rintro e u' w7 ⟨rfl, rfl, HR7, HC7⟩
        exact ⟨_, results_tmp2 rfl _ _ _, .stay (i : Int) 0 HZ.out (.old i hi HUu.out (by rw [HSr.out]; exact HI.out)) rfl HR7.out (HW6.out.trans HC7.out (fun x e => Or.inl e))⟩
      | false =>
        have HNo : Hid (∀ i (hi : i < I.length), serT I[i] ≠ ser) := fun i hi e => by
          have := (hH.out.md.2 ser).1.2 ⟨i, hi, e⟩
          rw [hh] at this
          cases this
        have HNh : Hid (¬ Maps.has D (.string ser) = true) := by unfold Hid; rw [hh]; simp
        clear hat hwf hh
        have b0 := kp c0 HB6.out
        have b1 := kp (HD4.out _ HC4.out).2.1 HB6.out
        have b2 := kp c2 HB6.out
        have b3 := kp (HD4.out _ HC4.out).2.2.2 HB6.out
        clear c0 c1 c2 c3
        by_cases hm : I.length = 256
        · have HLy := hidO (lay15_many HR6.out hm (.string ⟨ser.toArray⟩) d.kind (.string ⟨d.name.toArray⟩) (.string ⟨d.help.toArray⟩) (.slice a2 d.labels.length k2))
          have HMy := hidO hm
          clear hm
          go_wp2_with (go_at_call 38; with_reducible refine Calls.mono HLy.out ?_; rintro e w7 ⟨rfl, HB7⟩)
          refine leaves_cons (f := 32) (args := #[.pointer (some ⟨R.b, 1284, none⟩), .pointer none]) (by simp) (by simp [go_sem]) ?_
          refine CallsD.mono (HG.out _ (HR6.out.below HB7.out)) ?_
          rintro e u' w8 ⟨rfl, rfl, HR8, HC8⟩
          exact ⟨_, results_tmp2 rfl _ _ _, .stay 0 3 HZ.out (.many HUu.out (by rw [HSr.out]; exact HNo.out) HMy.out) rfl HR8.out ((HW6.out.trans (Chg.of_below (S := fun y => y = R.b) HB7.out) (fun x e => Or.inl e)).trans HC8.out (fun x e => Or.inl e))⟩
        · have hm' : I.length < 256 := by have := HR6.out.len; omega
          by_cases hrm : room < celF d.kind (R.n : Int) (R.p : Int)
          · have HLy := hidO (lay15_room HR6.out hm' (.string ⟨ser.toArray⟩) d.kind (.string ⟨d.name.toArray⟩) (.string ⟨d.help.toArray⟩) (.slice a2 d.labels.length k2) HK0.out hrm)
            have HMy := hidO (And.intro hm' hrm)
            clear hm hm' hrm
            go_wp2_with (go_at_call 38; with_reducible refine Calls.mono HLy.out ?_; rintro e w7 ⟨rfl, HB7⟩)
            refine leaves_cons (f := 32) (args := #[.pointer (some ⟨R.b, 1284, none⟩), .pointer none]) (by simp) (by simp [go_sem]) ?_
            refine CallsD.mono (HG.out _ (HR6.out.below HB7.out)) ?_
            rintro e u' w8 ⟨rfl, rfl, HR8, HC8⟩
            exact ⟨_, results_tmp2 rfl _ _ _, .stay 0 13 HZ.out (.room HUu.out (by rw [HSr.out]; exact HNo.out) HMy.out.1 HMy.out.2) rfl HR8.out ((HW6.out.trans (Chg.of_below (S := fun y => y = R.b) HB7.out) (fun x e => Or.inl e)).trans HC8.out (fun x e => Or.inl e))⟩
          · have HMy := hidO (And.intro hm' hrm)
            have hap : ∀ x, tv.ownBlock = some x → ¬ x = R.b := fun x hx e => tv_apart hH.out.rg hH.out.mp hH.out.tot hx (Or.inl e)
            have hO6 : Va.OwnL w1.heap.size (.slice a2 d.labels.length k2) d.labels w6 := chg_row (Chg.of_below (S := fun _ => False) HB6.out) HO4.out (fun _ _ k => k)
            obtain ⟨a3, lb, lo, k3, e3, q1, q2, q3, q4, q5⟩ := ownL_ds hO6
            injection e3 with e31 e32 e33
            subst e31 e33
            have HOw := hidO hO6
            have HQ := hidO (And.intro q1 (And.intro q2 (And.intro q3 (And.intro q4 q5))))
            have HLy := hidO (lay15_ok HR6.out HM6.out (chg_row HW6.out hH.out.tot hap) hH.out.len hH.out.t0 hH.out.n1 hH.out.n2 hH.out.p1 hH.out.p2 hm' ser HT0.out d.kind d.name d.help lb lo a2 k2 d.labels HK0.out (by omega) hH.out.rm)
            clear hm hm' hrm hap hO6 q1 q2 q3 q4 q5
            go_wp2_with (go_at_call 38; with_reducible refine Calls.mono HLy.out ?_; rintro e w7 ⟨X, tv', rfl, HLd⟩)
            refine leaves_cons (f := 32) (args := #[.pointer (some ⟨R.b, 1284, none⟩), .pointer none]) (by simp) (by simp [go_sem]) ?_
            refine CallsD.mono (lgive_any .returning HLd.out.rg ht) ?_
            rintro e u' w8 ⟨rfl, rfl, HR8, HC8⟩
            obtain ⟨q1, q2, q3, q4, q5⟩ := HQ.out
            have hfin := lay_fin hH.out.rg hH.out.mp hH.out.tot hH.out.n1 HW6.out HLd.out HR8.out HC8.out
            refine ⟨_, results_tmp2 rfl _ _ _, .new X tv' lb lo a2 k2 HZ.out HUu.out (by rw [HSr.out]; exact HNo.out) HMy.out.1 (by have := HMy.out.2; omega) rfl (by rw [HSr.out]; exact hfin.1) ?_ q1 q2 q3 (own_leT (chg_row hfin.2 HOw.out (fun x hx k => own_fin HOw.out hx (by omega) hH.out.rg hH.out.mp hH.out.tot k)) (by omega))⟩
            exact rowL_fin q4 q1 q5 (by omega) hH.out.rg hH.out.mp hH.out.tot hfin.2
  · have hz1 : (z != 0) = true := by simpa using hz0
    go_wp2_with (go_at_call 35; with_reducible refine Calls.mono (HCk.out ()) ?_; rintro e w1 ⟨rfl, HB1⟩)
    have hz := HZ.out
    exact ⟨_, results_tmp2 rfl _ _ _, .bad (by rw [hz]; exact hz0) (by rw [hz]; rfl) (bt HB0.out HB1.out)⟩
end
end Go.Proofs.YtfnohbalkpponaaGreatDoor
