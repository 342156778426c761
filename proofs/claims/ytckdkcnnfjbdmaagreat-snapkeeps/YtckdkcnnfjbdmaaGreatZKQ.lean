/- SnapKeeps: what the law holds on to. Own work of the verifier. -/
import Derived.Test.YtckdkcnnfjbdmaaGreatZSP
import Derived.Test.YtckdkcnnfjbdmaaGreatZQE
import Derived.Test.YtckdkcnnfjbdmaaGreatZFA
import Derived.Test.YtckdkcnnfjbdmaaGreatZDC
namespace Go.Proofs.YtckdkcnnfjbdmaaGreat
open Go.RowKit Me

theorem OR.chg {S : Nat → Prop} {B : Nat} {u : Value} {J : List Rv} {W W' : World} (h : OR B u J W) (k : Chg S W W') (hS : ∀ g, Bk u J g → ¬ S g) : OR B u J W' :=
  ⟨k.row h.own (fun g e => hS g (Or.inl e)), fun r hr => ⟨k.row (h.el r hr).1 (fun g e => hS g (Or.inr ⟨r, hr, Or.inl e⟩)), k.row (h.el r hr).2 (fun g e => hS g (Or.inr ⟨r, hr, Or.inr e⟩))⟩⟩
theorem OR.bk {B : Nat} {u : Value} {J : List Rv} {W : World} (h : OR B u J W) : ∀ g, Bk u J g → B ≤ g ∧ g < W.heap.size := h.sq.bk
theorem typesVS : (45 : TypeId) ≠ 26 := by decide
theorem typesLS : (79 : TypeId) ≠ 26 := by decide
theorem typesCS : (57 : TypeId) ≠ 26 := by decide
/-- A snapshot's own block is none of its lists'. -/
theorem OR.apart {B b : Nat} {u : Value} {J : List Rv} {W : World} {cs : Array Value} {z : Nat × Nat} (h : OR B u J W) (hb : W.heap[b]? = some (.cells cs 26 z)) : ¬ Bk u J b := by
  rintro (k | ⟨r, hr, k | k⟩)
  · exact own_notype h.own hb typesVS k
  · exact own_notype (h.el r hr).1 hb typesLS k
  · exact own_notype (h.el r hr).2 hb typesCS k
/-- One value, in a row of its own. -/
theorem OR.one {B g : Nat} {r : Rv} {W : World} (h : W.heap[g]? = some (.cells (cl r).toArray 45 (0, 0))) (hg : B ≤ g) (hl : OwnL B r.2.1 r.1.d.labels W) (hc : OwnC B r.2.2 r.1.cs W) : OR B (.slice (some ⟨g, 0, none⟩) 1 1) [r] W :=
  ⟨⟨rfl, Or.inr ⟨g, 1, (cl r).toArray, rfl, hg, h, Nat.le_refl _, by unfold maxLen; omega, rfl, rfl⟩⟩, fun q hq => by
    rw [List.mem_singleton] at hq
    subst hq
    exact ⟨hl, hc⟩⟩
theorem Dj.one (r : Rv) : Dj [r] := fun i j hi hj hne => by
  simp at hi hj
  omega
/-- What the document's Merge told, in memory. -/
structure Wn (wb : World) (s5 s6 : Nat) (ux : Value) (R : List Rv) (W : World) : Prop where
  wx : W.ownsRow s5 45 11 ux R.length (flV R)
  we : ∀ r ∈ R, SLb wb r.2.1 r.1.d.labels ∧ (SN wb r.2.2 r.1.cs ∨ (OwnC s5 r.2.2 r.1.cs W ∧ ∀ g, r.2.2.ownBlock = some g → g < s6))
  rx : ∀ g, ux.ownBlock = some g → g < s6
  bl : Below wb.heap.size wb W
theorem Wn.chg {S : Nat → Prop} {wb : World} {s5 s6 : Nat} {ux : Value} {R : List Rv} {W W' : World} (h : Wn wb s5 s6 ux R W) (k : Chg S W W') (hS : ∀ g, S g → wb.heap.size ≤ g ∧ (g < s5 ∨ s6 ≤ g)) : Wn wb s5 s6 ux R W' := by
  have key : ∀ {e : TypeId} {s n : Nat} {v : Value} {xs : List Value}, W.ownsRow s5 e s v n xs → (∀ g, v.ownBlock = some g → g < s6) → W'.ownsRow s5 e s v n xs := fun {e s n v xs} q q6 => k.row q (fun g e1 hs => by
    have h6 := q6 g e1
    rcases own_atG q with p | ⟨g', p, p1, _⟩
    · rw [p] at e1; cases e1
    · rw [p] at e1
      cases e1
      have := (hS _ hs).2
      omega)
  refine ⟨key h.wx h.rx, fun r hr => ⟨(h.we r hr).1, (h.we r hr).2.imp id (fun q => ⟨key q.1 q.2, q.2⟩)⟩, h.rx, ?_⟩
  exact h.bl.trans (k.below h.bl.size (fun x hx => (hS x hx).1))
theorem Wn.below {wb : World} {s5 s6 : Nat} {ux : Value} {R : List Rv} {W W' : World} (h : Wn wb s5 s6 ux R W) (hb : Below W.heap.size W W') : Wn wb s5 s6 ux R W' := ⟨own_belG h.wx hb, fun r hr => ⟨(h.we r hr).1, (h.we r hr).2.imp id (fun q => ⟨own_belG q.1 hb, q.2⟩)⟩, h.rx, bt h.bl hb⟩
theorem Wn.sv {wb : World} {s5 s6 : Nat} {ux : Value} {R : List Rv} {W : World} (h : Wn wb s5 s6 ux R W) (hs : s5 ≤ W.heap.size) : SV W ux (R.map (·.1)) := GV.sv (B := s5) (W0 := W) ⟨h.wx, ⟨rfl, rfl, rfl, Nat.le_refl _, fun _ _ => rfl⟩, hs⟩ (fun r hr => ⟨(h.we r hr).1.below h.bl, by
  rcases (h.we r hr).2 with q | q
  · exact q.below h.bl
  · exact q.1.sn hs⟩)
/-- What is written into one's own copy. -/
def hpX (x : Vl) : Vl := { x with d := { x.d with help := x.d.help ++ [120] } }
def ncX (c : Cn) : Cn := (c.1, (c.2 + 1) % 18446744073709551616)
def chX (x : Vl) : Vl := { hpX x with cs := x.cs.map ncX }
def chS' (s : Sn) : Sn := ⟨s.p, s.vs.map chX, s.r⟩
theorem flV_same : ∀ (J : List Rv) (m : Nat) (r : Rv) (hm : m < J.length) (_ : cl J[m] = cl r), flV (J.set m r) = flV J
  | [], m, _, hm, _ => absurd hm (by simp)
  | c :: L, 0, r, _, h => by
    show cl r ++ flV L = cl c ++ flV L
    have h' : cl c = cl r := h
    rw [h']
  | c :: L, m + 1, r, hm, h => by
    show cl c ++ flV (L.set m r) = cl c ++ flV L
    have hm' : m < L.length := by simpa using hm
    have h' : cl L[m] = cl r := h
    rw [flV_same L m r hm' h']
/-- The counts of one of them are written. -/
def wcs (r : Rv) (C : List Cn) : Rv := ({ r.1 with cs := C }, r.2)
theorem OR.cnts {B : Nat} {u : Value} {J : List Rv} {W W' : World} {m : Nat} {C : List Cn} (h : OR B u J W) (dj : Dj J) (hm : m < J.length) (hg : W.grownBy W' J[m].2.2.ownBlock) (hc : OwnC B J[m].2.2 C W') : OR B u (J.set m (wcs J[m] C)) W' := by
  have hk := h.el J[m] (List.getElem_mem hm)
  refine ⟨by rw [List.length_set, flV_same J m (wcs J[m] C) hm rfl]; exact World.ownsRow.kept h.own hg (own_apart h.own hk.2 typesCV.symm), fun q hq => ?_⟩
  obtain ⟨j, hj, rfl⟩ := List.mem_iff_getElem.1 hq
  have hj' : j < J.length := by rw [List.length_set] at hj; exact hj
  by_cases c : j = m
  · subst c
    rw [List.getElem_set_self]
    exact ⟨World.ownsRow.kept hk.1 hg (own_apart hk.1 hk.2 typesCL.symm), hc⟩
  · rw [List.getElem_set_ne (fun e => c e.symm)]
    have hq2 := h.el J[j] (List.getElem_mem hj')
    exact ⟨World.ownsRow.kept hq2.1 hg (own_apart hq2.1 hk.2 typesCL.symm), World.ownsRow.kept hq2.2 hg (ap_or (dj j m hj' hm c).2)⟩
theorem fl_one1 : ∀ (L : List Cn) (k n : Nat) (hk : k < L.length), (fl L).set (k * 2 + 1) (.int .u64 (n : Int)) = fl (L.set k (L[k].1, n))
  | [], k, _, h => absurd h (by simp)
  | c :: L, 0, _, _ => rfl
  | c :: L, k + 1, n, h => by
    have h' : k < L.length := by simpa using h
    show (.int .i64 c.1 :: .int .u64 (c.2 : Int) :: fl L : List Value).set ((k + 1) * 2 + 1) _ = .int .i64 c.1 :: .int .u64 (c.2 : Int) :: fl (L.set k (L[k].1, n))
    rw [show (k + 1) * 2 + 1 = (k * 2 + 1) + 1 + 1 by omega, List.set_cons_succ, List.set_cons_succ, fl_one1 L k n h']
theorem OwnC.put1 {B g n cap k : Nat} {L : List Cn} {W : World} (h : OwnC B (.slice (some ⟨g, 0, none⟩) n cap) L W) (hn : L.length = n) (hk : k < L.length) (x : Nat) : OwnC B (.slice (some ⟨g, 0, none⟩) n cap) (L.set k (L[k].1, x)) (W.setCell ⟨g, k * 2 + 1, none⟩ (.int .u64 (x : Int))) ∧ W.grownBy (W.setCell ⟨g, k * 2 + 1, none⟩ (.int .u64 (x : Int))) (some g) := by
  subst hn
  unfold OwnC at *
  obtain ⟨s0, g0⟩ := h.stored (k * 2 + 1) (.int .u64 (x : Int))
  rw [fl_one1 L k x hk] at s0
  exact ⟨by rw [List.length_set]; exact s0, g0⟩
end Go.Proofs.YtckdkcnnfjbdmaaGreat
/- SnapKeeps: the walk. Own work of the verifier. -/
namespace Go.Proofs.YtckdkcnnfjbdmaaGreat
open Go.RowKit Me

theorem two_new (W : World) (o1 o2 : Obj) : ((W.alloc o1).alloc o2).drew.heap[W.heap.size]? = some o1 ∧ ((W.alloc o1).alloc o2).drew.heap[W.heap.size + 1]? = some o2 ∧ Below W.heap.size W ((W.alloc o1).alloc o2).drew := by
  refine ⟨hkN (new_1 W o1) (bel_drewB (bel1 _ _)), ?_, bel_drewB (bel2 _ _ _)⟩
  have := new_1 (W.alloc o1) o2
  rw [show (W.alloc o1).heap.size = W.heap.size + 1 by simp] at this
  exact this
theorem two_new0 (W : World) (o1 o2 : Obj) : ((W.alloc o1).alloc o2).heap[W.heap.size]? = some o1 ∧ ((W.alloc o1).alloc o2).heap[W.heap.size + 1]? = some o2 := ⟨(two_new W o1 o2).1, (two_new W o1 o2).2.1⟩
abbrev S4 (A B : Sn) (ua ub : Value) (b1 b2 : Nat) (W : World) : Prop := W.cell? ⟨b1, 0, none⟩ = some (.int .i64 A.p) ∧ W.cell? ⟨b1, 1, none⟩ = some ua ∧ W.cell? ⟨b1, 2, none⟩ = some (.int .u64 (A.r : Int)) ∧ W.cell? ⟨b2, 0, none⟩ = some (.int .i64 B.p) ∧ W.cell? ⟨b2, 1, none⟩ = some ub ∧ W.cell? ⟨b2, 2, none⟩ = some (.int .u64 (B.r : Int))
theorem s4_of {A B : Sn} {ua ub : Value} {b1 b2 : Nat} {W : World} (h1 : W.heap[b1]? = some (.cells #[.int .i64 A.p, ua, .int .u64 (A.r : Int)] 26 (0, 0))) (h2 : W.heap[b2]? = some (.cells #[.int .i64 B.p, ub, .int .u64 (B.r : Int)] 26 (0, 0))) : S4 A B ua ub b1 b2 W := by
  obtain ⟨p0, p1, p2, _⟩ := three_cells h1
  obtain ⟨q0, q1, q2, _⟩ := three_cells h2
  exact ⟨p0, p1, p2, q0, q1, q2⟩
theorem belT {B : Nat} {a w : World} (h : Below B a w) (b j : Nat) (u : Value) (hb : B ≤ b) : Below B a (w.setCell ⟨b, j, none⟩ u) := h.setCell (p := ⟨b, j, none⟩) hb u
/-- The two copies, each in new memory. -/
structure K4 (wb : World) (A B : Sn) (b5 b6 : Nat) (uo uk : Value) (J K : List Rv) (s4 t4 : Nat) (W : World) : Prop where
  a5 : W.heap[b5]? = some (.cells #[.int .i64 A.p, uo, .int .u64 (A.r : Int)] 26 (0, 0))
  a6 : W.heap[b6]? = some (.cells #[.int .i64 B.p, uk, .int .u64 (B.r : Int)] 26 (0, 0))
  oj : OR s4 uo J W
  ok : OR t4 uk K W
  dj : Dj J
  mj : J.map (·.1) = A.vs
  mk' : K.map (·.1) = B.vs
  rj : ∀ g, Bk uo J g → g < t4
  hs : wb.heap.size ≤ s4
  ht : s4 ≤ t4
  hw : t4 ≤ W.heap.size
  bl : Below wb.heap.size wb W
/-- The two copies while their blocks come to be. -/
structure KB4 (wb : World) (A B : Sn) (uo uk : Value) (J K : List Rv) (s4 t4 : Nat) (W : World) : Prop where
  oj : OR s4 uo J W
  ok : OR t4 uk K W
  dj : Dj J
  mj : J.map (·.1) = A.vs
  mk' : K.map (·.1) = B.vs
  rj : ∀ g, Bk uo J g → g < t4
  hs : wb.heap.size ≤ s4
  ht : s4 ≤ t4
  hw : t4 ≤ W.heap.size
  bl : Below wb.heap.size wb W
theorem KB4.below {wb : World} {A B : Sn} {uo uk : Value} {J K : List Rv} {s4 t4 : Nat} {W W1 : World} (h : KB4 wb A B uo uk J K s4 t4 W) (hb : Below W.heap.size W W1) : KB4 wb A B uo uk J K s4 t4 W1 := ⟨h.oj.below hb, h.ok.below hb, h.dj, h.mj, h.mk', h.rj, h.hs, h.ht, Nat.le_trans h.hw hb.size, bt h.bl hb⟩
theorem KB4.k4 {wb : World} {A B : Sn} {uo uk : Value} {J K : List Rv} {s4 t4 b5 b6 : Nat} {W : World} (h : KB4 wb A B uo uk J K s4 t4 W) (a5 : W.heap[b5]? = some (.cells #[.int .i64 A.p, uo, .int .u64 (A.r : Int)] 26 (0, 0))) (a6 : W.heap[b6]? = some (.cells #[.int .i64 B.p, uk, .int .u64 (B.r : Int)] 26 (0, 0))) : K4 wb A B b5 b6 uo uk J K s4 t4 W := ⟨a5, a6, h.oj, h.ok, h.dj, h.mj, h.mk', h.rj, h.hs, h.ht, h.hw, h.bl⟩
theorem OR.putT {B X : Nat} {u : Value} {J : List Rv} {W : World} {cs : Array Value} {z : Nat × Nat} (h : OR B u J W) (hX : W.heap[X]? = some (.cells cs 26 z)) (x y q : Value) : OR B u J (Go.Proofs.YtckdkcnnfjbdmaaGreat.put3 W X x y q) := ⟨own_put3 h.own (own_notype h.own hX typesVS) x y q, fun r hr => ⟨own_put3 (h.el r hr).1 (own_notype (h.el r hr).1 hX typesLS) x y q, own_put3 (h.el r hr).2 (own_notype (h.el r hr).2 hX typesCS) x y q⟩⟩
theorem put3_size (W : World) (b : Nat) (x y z : Value) : (put3 W b x y z).heap.size = W.heap.size := by
  unfold put3
  simp only [World.setCell, Array.size_modify]
theorem put3_other (W : World) (b k : Nat) (x y z : Value) (hk : k ≠ b) : (put3 W b x y z).heap[k]? = W.heap[k]? := by
  unfold put3
  rw [heap_other _ _ _ _ hk, heap_other _ _ _ _ hk, heap_other _ _ _ _ hk]
theorem KB4.put {wb : World} {A B : Sn} {uo uk : Value} {J K : List Rv} {s4 t4 X : Nat} {W : World} {cs : Array Value} {z : Nat × Nat} (h : KB4 wb A B uo uk J K s4 t4 W) (hX : W.heap[X]? = some (.cells cs 26 z)) (hb : wb.heap.size ≤ X) (x y q : Value) : KB4 wb A B uo uk J K s4 t4 (put3 W X x y q) := ⟨h.oj.putT hX x y q, h.ok.putT hX x y q, h.dj, h.mj, h.mk', h.rj, h.hs, h.ht, by rw [put3_size]; exact h.hw, put3_bel h.bl hb x y q⟩
theorem KB4.s1 {wb : World} {A B : Sn} {uo uk : Value} {J K : List Rv} {s4 t4 : Nat} {W : World} (h : KB4 wb A B uo uk J K s4 t4 W) : K4 wb A B W.heap.size (W.heap.size + 1) uo uk J K s4 t4 ((W.alloc (.cells #[.int .i64 A.p, uo, .int .u64 (A.r : Int)] 26)).alloc (.cells #[.int .i64 B.p, uk, .int .u64 (B.r : Int)] 26)) := (h.below (bel2 _ _ _)).k4 (two_new0 W _ _).1 (two_new0 W _ _).2
theorem KB4.s2 {wb : World} {A B : Sn} {uo uk : Value} {J K : List Rv} {s4 t4 : Nat} {W : World} (h : KB4 wb A B uo uk J K s4 t4 W) : K4 wb A B (W.heap.size + 1) W.heap.size uo uk J K s4 t4 ((W.alloc (.cells #[.int .i64 B.p, uk, .int .u64 (B.r : Int)] 26)).alloc (.cells #[.int .i64 A.p, uo, .int .u64 (A.r : Int)] 26)) := (h.below (bel2 _ _ _)).k4 (two_new0 W _ _).2 (two_new0 W _ _).1
theorem KB4.s3 {wb : World} {A B : Sn} {uo uk : Value} {J K : List Rv} {s4 t4 X : Nat} {W : World} (h : KB4 wb A B uo uk J K s4 t4 W) (hX : W.heap[X]? = some (.cells #[.int .i64 0, .slice none 0 0, .int .u64 0] 26 (0, 0))) (hb : wb.heap.size ≤ X) : K4 wb A B X W.heap.size uo uk J K s4 t4 ((put3 W X (.int .i64 A.p) uo (.int .u64 (A.r : Int))).alloc (.cells #[.int .i64 B.p, uk, .int .u64 (B.r : Int)] 26)) := by
  refine ((h.put hX hb _ _ _).below (bel1 _ _)).k4 (hkN (set_three hX) (bel1 _ _)) ?_
  have := new_1 (put3 W X (.int .i64 A.p) uo (.int .u64 (A.r : Int))) (.cells #[.int .i64 B.p, uk, .int .u64 (B.r : Int)] 26)
  rw [put3_size] at this
  exact this
theorem KB4.s4 {wb : World} {A B : Sn} {uo uk : Value} {J K : List Rv} {s4 t4 X : Nat} {W : World} (h : KB4 wb A B uo uk J K s4 t4 W) (hX : W.heap[X]? = some (.cells #[.int .i64 0, .slice none 0 0, .int .u64 0] 26 (0, 0))) (hb : wb.heap.size ≤ X) : K4 wb A B W.heap.size X uo uk J K s4 t4 ((put3 W X (.int .i64 B.p) uk (.int .u64 (B.r : Int))).alloc (.cells #[.int .i64 A.p, uo, .int .u64 (A.r : Int)] 26)) := by
  refine ((h.put hX hb _ _ _).below (bel1 _ _)).k4 ?_ (hkN (set_three hX) (bel1 _ _))
  have := new_1 (put3 W X (.int .i64 B.p) uk (.int .u64 (B.r : Int))) (.cells #[.int .i64 A.p, uo, .int .u64 (A.r : Int)] 26)
  rw [put3_size] at this
  exact this
theorem KB4.s5 {wb : World} {A B : Sn} {uo uk : Value} {J K : List Rv} {s4 t4 X Y : Nat} {W : World} (h : KB4 wb A B uo uk J K s4 t4 W) (hX : W.heap[X]? = some (.cells #[.int .i64 0, .slice none 0 0, .int .u64 0] 26 (0, 0))) (hY : W.heap[Y]? = some (.cells #[.int .i64 0, .slice none 0 0, .int .u64 0] 26 (0, 0))) (hb : wb.heap.size ≤ X) (hb' : wb.heap.size ≤ Y) (hne : X ≠ Y) : K4 wb A B X Y uo uk J K s4 t4 (put3 (put3 W X (.int .i64 A.p) uo (.int .u64 (A.r : Int))) Y (.int .i64 B.p) uk (.int .u64 (B.r : Int))) := by
  have hY' : (put3 W X (.int .i64 A.p) uo (.int .u64 (A.r : Int))).heap[Y]? = some (.cells #[.int .i64 0, .slice none 0 0, .int .u64 0] 26 (0, 0)) := by rw [put3_other _ _ _ _ _ _ (fun e => hne e.symm)]; exact hY
  refine ((h.put hX hb _ _ _).put hY' hb' _ _ _).k4 ?_ (set_three hY')
  rw [put3_other _ _ _ _ _ _ hne]
  exact set_three hX
theorem K4.below {wb : World} {A B : Sn} {b5 b6 : Nat} {uo uk : Value} {J K : List Rv} {s4 t4 : Nat} {W W1 : World} (h : K4 wb A B b5 b6 uo uk J K s4 t4 W) (hb : Below W.heap.size W W1) : K4 wb A B b5 b6 uo uk J K s4 t4 W1 := ⟨hkN h.a5 hb, hkN h.a6 hb, h.oj.below hb, h.ok.below hb, h.dj, h.mj, h.mk', h.rj, h.hs, h.ht, Nat.le_trans h.hw hb.size, bt h.bl hb⟩
theorem K4.svJ {wb : World} {A B : Sn} {b5 b6 : Nat} {uo uk : Value} {J K : List Rv} {s4 t4 : Nat} {W : World} (h : K4 wb A B b5 b6 uo uk J K s4 t4 W) : SV W uo A.vs := by
  have := h.oj.sv (Nat.le_trans h.ht h.hw)
  rw [h.mj] at this
  exact this
theorem K4.svK {wb : World} {A B : Sn} {b5 b6 : Nat} {uo uk : Value} {J K : List Rv} {s4 t4 : Nat} {W : World} (h : K4 wb A B b5 b6 uo uk J K s4 t4 W) : SV W uk B.vs := by
  have := h.ok.sv h.hw
  rw [h.mk'] at this
  exact this
/-- What the document's Merge told, with its block. -/
theorem Wn.new {wb w5 w6 : World} {ux : Value} {R : List Rv} (o : Obj) (hx : w6.ownsRow w5.heap.size 45 11 ux R.length (flV R)) (he : ∀ q ∈ R, SLb wb q.2.1 q.1.d.labels ∧ (SN wb q.2.2 q.1.cs ∨ OwnC w5.heap.size q.2.2 q.1.cs w6)) (hb : Below wb.heap.size wb w6) : Wn wb w5.heap.size (w6.alloc o).heap.size ux R (w6.alloc o) := by
  have key : ∀ {e : TypeId} {s n : Nat} {v : Value} {xs : List Value}, w6.ownsRow w5.heap.size e s v n xs → ∀ g, v.ownBlock = some g → g < (w6.alloc o).heap.size := fun {e s n v xs} k g e1 => by
    rcases own_atG k with p | ⟨g', p, _, p2⟩
    · rw [p] at e1; cases e1
    · rw [p] at e1
      cases e1
      have := (bel1 w6 o).size
      omega
  exact ⟨own_belG hx (bel1 _ _), fun r hr => ⟨(he r hr).1, (he r hr).2.imp id (fun q => ⟨own_belG q (bel1 _ _), key q⟩)⟩, key hx, bt hb (bel1 _ _)⟩
/-- The two that were merged, each in memory of its own. -/
structure K8 (s6 s7 : Nat) (M : Sn) (b9 b11 : Nat) (um un : Value) (Jm Jn : List Rv) (W : World) : Prop where
  a9 : W.heap[b9]? = some (.cells #[.int .i64 M.p, um, .int .u64 (M.r : Int)] 26 (0, 0))
  a11 : W.heap[b11]? = some (.cells #[.int .i64 M.p, un, .int .u64 (M.r : Int)] 26 (0, 0))
  om : OR s6 um Jm W
  on : OR s7 un Jn W
  dm : Dj Jm
  mm : Jm.map (·.1) = M.vs
  mn : Jn.map (·.1) = M.vs
  rm : ∀ g, Bk um Jm g → g < s7
  h6 : s6 ≤ s7
  h7 : s7 ≤ W.heap.size
theorem K8.below {s6 s7 : Nat} {M : Sn} {b9 b11 : Nat} {um un : Value} {Jm Jn : List Rv} {W W1 : World} (h : K8 s6 s7 M b9 b11 um un Jm Jn W) (hb : Below W.heap.size W W1) : K8 s6 s7 M b9 b11 um un Jm Jn W1 := ⟨hkN h.a9 hb, hkN h.a11 hb, h.om.below hb, h.on.below hb, h.dm, h.mm, h.mn, h.rm, h.h6, Nat.le_trans h.h7 hb.size⟩
theorem K8.svM {s6 s7 : Nat} {M : Sn} {b9 b11 : Nat} {um un : Value} {Jm Jn : List Rv} {W : World} (h : K8 s6 s7 M b9 b11 um un Jm Jn W) : SV W um M.vs := by
  have := h.om.sv (Nat.le_trans h.h6 h.h7)
  rw [h.mm] at this
  exact this
/-- .. when the first was spoilt. -/
structure K10 (s6 s7 : Nat) (M : Sn) (b9 b11 : Nat) (um un : Value) (Jm Jn : List Rv) (W : World) : Prop where
  a9 : W.heap[b9]? = some (.cells #[.int .i64 M.p, um, .int .u64 (M.r : Int)] 26 (0, 0))
  a11 : W.heap[b11]? = some (.cells #[.int .i64 M.p, un, .int .u64 (M.r : Int)] 26 (0, 0))
  sm : Sq s6 um Jm (spL Jm 1) (spC Jm 1) W
  on : OR s7 un Jn W
  mn : Jn.map (·.1) = M.vs
  rm : ∀ g, Bk um Jm g → s6 ≤ g ∧ g < s7
  h6 : s6 ≤ s7
  h7 : s7 ≤ W.heap.size
theorem K10.below {s6 s7 : Nat} {M : Sn} {b9 b11 : Nat} {um un : Value} {Jm Jn : List Rv} {W W1 : World} (h : K10 s6 s7 M b9 b11 um un Jm Jn W) (hb : Below W.heap.size W W1) : K10 s6 s7 M b9 b11 um un Jm Jn W1 := ⟨hkN h.a9 hb, hkN h.a11 hb, h.sm.below hb, h.on.below hb, h.mn, h.rm, h.h6, Nat.le_trans h.h7 hb.size⟩
theorem K10.svN {s6 s7 : Nat} {M : Sn} {b9 b11 : Nat} {um un : Value} {Jm Jn : List Rv} {W : World} (h : K10 s6 s7 M b9 b11 um un Jm Jn W) : SV W un M.vs := by
  have := h.on.sv h.h7
  rw [h.mn] at this
  exact this
/-- Spoil, seen from outside. -/
theorem K8.spoil {s6 s7 : Nat} {M : Sn} {b9 b11 : Nat} {um un : Value} {Jm Jn : List Rv} {W W1 : World} (h : K8 s6 s7 M b9 b11 um un Jm Jn W) (hc : Chg (Bk um Jm) W W1) (hq : Sq s6 um Jm (spL Jm 1) (spC Jm 1) W1) : K10 s6 s7 M b9 b11 um un Jm Jn W1 ∧ Below s6 W W1 := by
  refine ⟨⟨hc.at_ h.a9 (h.om.apart h.a9), hc.at_ h.a11 (h.om.apart h.a11), hq, h.on.chg hc (fun g hg k => ?_), h.mn, fun g hg => ⟨(h.om.bk g hg).1, h.rm g hg⟩, h.h6, Nat.le_trans h.h7 hc.size⟩, hc.below (Nat.le_trans h.h6 h.h7) (fun x hx => (h.om.bk x hx).1)⟩
  have := (h.on.bk g hg).1
  have := h.rm g k
  omega
/-- A value that was found, with lists of its own. -/
structure Vo (b s : Nat) (V : Vl) (lv cv : Value) (W : World) : Prop where
  x : B11 W b V lv cv
  l : OwnL s lv V.d.labels W
  c : OwnC s cv V.cs W
theorem Vo.below {b s : Nat} {V : Vl} {lv cv : Value} {W W1 : World} (h : Vo b s V lv cv W) (hb : Below W.heap.size W W1) : Vo b s V lv cv W1 := ⟨h.x.below hb, own_belG h.l hb, own_belG h.c hb⟩
theorem Vo.in {b s g : Nat} {V : Vl} {lv cv : Value} {W : World} (h : Vo b s V lv cv W) (k : lv.ownBlock = some g ∨ cv.ownBlock = some g) : s ≤ g ∧ g < W.heap.size := by
  have key : ∀ {e : TypeId} {s' n : Nat} {v : Value} {xs : List Value}, W.ownsRow s e s' v n xs → v.ownBlock = some g → s ≤ g ∧ g < W.heap.size := fun {e s' n v xs} q e1 => by
    rcases own_atG q with p | ⟨g', p, p1, p2⟩
    · rw [p] at e1; cases e1
    · rw [p] at e1; cases e1; exact ⟨p1, p2⟩
  rcases k with k | k
  · exact key h.l k
  · exact key h.c k
theorem Vo.lt {b s g : Nat} {V : Vl} {lv cv : Value} {W : World} (h : Vo b s V lv cv W) (k : lv.ownBlock = some g ∨ cv.ownBlock = some g) : g < W.heap.size := (h.in k).2
theorem Vo.ge {b s g : Nat} {V : Vl} {lv cv : Value} {W : World} (h : Vo b s V lv cv W) (k : lv.ownBlock = some g ∨ cv.ownBlock = some g) : s ≤ g := (h.in k).1
theorem bk_one {u : Value} {r : Rv} {g : Nat} (h : Bk u [r] g) : u.ownBlock = some g ∨ (r.2.1.ownBlock = some g ∨ r.2.2.ownBlock = some g) := by
  rcases h with k | ⟨q, hq, k⟩
  · exact Or.inl k
  · rw [List.mem_singleton] at hq
    subst hq
    exact Or.inr k
theorem chg_set {S : Nat → Prop} {W : World} {g k : Nat} {u : Value} (h : S g) : Chg S W (W.setCell ⟨g, k, none⟩ u) := ⟨rfl, rfl, rfl, by simp [World.setCell], fun j _ hn => heap_other _ _ _ _ (fun e => hn (by rw [e]; exact h))⟩
theorem OR.cell2 {B g n cap m j : Nat} {J : List Rv} {W : World} {u : Value} {r : Rv} (h : OR B (.slice (some ⟨g, 0, none⟩) n cap) J W) (hn : J.length = n) (hm : m < J.length) (hj : j < 11) (e : (cl J[m]).set j u = cl r) (e1 : r.2 = J[m].2) (e2 : r.1.d.labels = J[m].1.d.labels) (e3 : r.1.cs = J[m].1.cs) : OR B (.slice (some ⟨g, 0, none⟩) n cap) (J.set m r) (W.setCell ⟨g, m * 11 + j, none⟩ u) := by
  subst hn
  exact h.cell hm hj e e1 e2 e3
theorem dj_cong {J J' : List Rv} (h : Dj J) (e : J'.map (·.2) = J.map (·.2)) : Dj J' := fun i j hi hj hne => by
  have hl : J'.length = J.length := by have := congrArg List.length e; simpa using this
  have key : ∀ k (hk : k < J'.length) (hk' : k < J.length), J'[k].2 = J[k].2 := fun k hk hk' => by
    have h1 : (J'.map (·.2))[k]? = some J'[k].2 := by simp [hk]
    rw [e] at h1
    simpa [hk'] using h1.symm
  rw [key i hi (by omega), key j hj (by omega)]
  exact h i j (by omega) (by omega) hne
theorem bk_cong {u : Value} {J J' : List Rv} (e : J'.map (·.2) = J.map (·.2)) {g : Nat} (h : Bk u J' g) : Bk u J g := by
  rcases h with k | ⟨r, hr, k⟩
  · exact Or.inl k
  · have h1 : r.2 ∈ J'.map (·.2) := List.mem_map_of_mem hr
    rw [e] at h1
    obtain ⟨q, hq, hq2⟩ := List.mem_map.1 h1
    rw [← hq2] at k
    exact Or.inr ⟨q, hq, k⟩
def hpR (r : Rv) : Rv := (hpX r.1, r.2)
def hcR (k : Nat) (r : Rv) : Rv := wcs r ((r.1.cs.take k).map ncX ++ r.1.cs.drop k)
def chR (r : Rv) : Rv := (chX r.1, r.2)
theorem hc_zero (r : Rv) : hcR 0 r = r := by
  unfold hcR wcs
  simp
theorem hc_end (r : Rv) (k : Nat) (h : r.1.cs.length ≤ k) : hcR k (hpR r) = chR r := by
  unfold hcR wcs hpR chR chX hpX
  simp [List.take_of_length_le h, List.drop_eq_nil_of_le h]
theorem nc_step (L : List Cn) (k : Nat) (h : k < L.length) (C : List Cn) (hC : C = (L.take k).map ncX ++ L.drop k) (hk : k < C.length) : C.set k (C[k].1, (C[k].2 + 1) % 18446744073709551616) = (L.take (k + 1)).map ncX ++ L.drop (k + 1) := by
  subst hC
  have e : ((L.take k).map ncX ++ L.drop k)[k] = L[k] := by
    rw [List.getElem_append_right (by simp; omega)]
    simp only [List.length_map, List.length_take]
    simp [show min k L.length = k by omega]
  rw [e, List.set_append_right _ _ (by simp; omega)]
  simp only [List.length_map, List.length_take]
  rw [show k - min k L.length = 0 by omega, List.drop_eq_getElem_cons h, List.set_cons_zero, List.take_succ_eq_append_getElem h, List.map_append, List.append_assoc]
  rfl
theorem hc_step (r : Rv) (k : Nat) (h : k < r.1.cs.length) (hk : k < (hcR k r).1.cs.length) : wcs (hcR k r) ((hcR k r).1.cs.set k ((hcR k r).1.cs[k].1, ((hcR k r).1.cs[k].2 + 1) % 18446744073709551616)) = hcR (k + 1) r := by
  have e := nc_step r.1.cs k h (hcR k r).1.cs rfl hk
  rw [e]
  rfl
theorem hc_len (r : Rv) (k : Nat) (h : k ≤ r.1.cs.length) : (hcR k r).1.cs.length = r.1.cs.length := by
  unfold hcR wcs
  simp
  omega
theorem md_step {L : List Vl} {J : List Rv} {i : Nat} (h : J.map (·.1) = (L.take i).map chX ++ L.drop i) (hi : i < L.length) (hj : i < J.length) : (J.set i (chR J[i])).map (·.1) = (L.take (i + 1)).map chX ++ L.drop (i + 1) := by
  have e : J[i].1 = L[i] := by
    have h1 : (J.map (·.1))[i]? = some J[i].1 := by simp [hj]
    rw [h, List.getElem?_append_right (by simp; omega)] at h1
    simp only [List.length_map, List.length_take] at h1
    rw [show i - min i L.length = 0 by omega, List.getElem?_drop, Nat.add_zero, List.getElem?_eq_getElem hi] at h1
    exact (Option.some.inj h1).symm
  rw [List.map_set, h, List.set_append_right _ _ (by simp; omega)]
  simp only [List.length_map, List.length_take]
  rw [show i - min i L.length = 0 by omega, List.drop_eq_getElem_cons hi, List.set_cons_zero, List.take_succ_eq_append_getElem hi, List.map_append, List.append_assoc]
  show _ ++ chX J[i].1 :: _ = _
  rw [e]
  rfl
theorem m2_set {J : List Rv} {i : Nat} (hj : i < J.length) (r : Rv) (h : r.2 = J[i].2) : (J.set i r).map (·.2) = J.map (·.2) := by
  apply List.ext_getElem
  · simp
  · intro k h1 h2
    simp only [List.getElem_map]
    by_cases c : k = i
    · subst c
      rw [List.getElem_set_self, h]
    · rw [List.getElem_set_ne (fun e => c e.symm)]
theorem ch_w {A : Sn} (h : SnW A) (hh : ∀ x ∈ A.vs, x.d.help.length ≤ 140737488351232) : SnW (chS' A) := ⟨fun y hy => by
  obtain ⟨x, hx, rfl⟩ := List.mem_map.1 hy
  have w1 := h.vs x hx
  refine ⟨w1.t, ?_, ?_, w1.n, w1.sum, w1.mn, w1.mx, ?_⟩
  · intro c hc
    obtain ⟨d, hd, rfl⟩ := List.mem_map.1 hc
    have := w1.cs d hd
    simp only [ncX]
    refine ⟨?_, ?_⟩ <;> first | exact this.1 | omega
  · show (x.cs.map ncX).length ≤ _
    rw [List.length_map]
    exact w1.cl
  · refine ⟨w1.d.1, ?_, w1.d.2.2⟩
    show (x.d.help ++ [120]).length ≤ _
    have := hh x hx
    rw [List.length_append, List.length_singleton]
    omega, h.r⟩
theorem rmerge_sv (a b : Sn) (v u : Value) (ha : SnW a) (hb : SnW b) (w : World) (hv : SnAt w a v) (hu : SnAt w b u) : Calls Tryz.prog 13 #[v, u] w fun e w' => RmQ w a b e w' :=
  (rmerge_at a b v u ha hb w w (Below.refl _ _) hv hu).mono (by
    rintro e w' ⟨x, R, rfl, h1, h2, h3, h4⟩
    refine ⟨x, rfl, ?_, h4⟩
    rw [← h3]
    exact GV.sv (B := w.heap.size) (W0 := w') ⟨h1, ⟨rfl, rfl, rfl, Nat.le_refl _, fun _ _ => rfl⟩, h4.size⟩ (fun r hr => ⟨(h2 r hr).1.below h4, by
      rcases (h2 r hr).2 with q | q
      · exact q.below h4
      · exact q.sn h4.size⟩))
theorem str_x (l : List UInt8) : Value.string ({ data := l.toArray } ++ { data := #[120] }) = Value.string ⟨(l ++ [120]).toArray⟩ := by
  apply congrArg
  apply ByteArray.ext
  simp
/-- One more count is risen. -/
theorem OR.inc {B i k : Nat} {u : Value} {J2 : List Rv} {W W' : World} (hi : i < J2.length) (h : OR B u (J2.set i (hcR k J2[i])) W) (dj : Dj (J2.set i (hcR k J2[i]))) (hk : k < J2[i].1.cs.length) (hg : W.grownBy W' J2[i].2.2.ownBlock) (hkc : k < (hcR k J2[i]).1.cs.length) (hc : OwnC B J2[i].2.2 ((hcR k J2[i]).1.cs.set k ((hcR k J2[i]).1.cs[k].1, ((hcR k J2[i]).1.cs[k].2 + 1) % 18446744073709551616)) W') : OR B u (J2.set i (hcR (k + 1) J2[i])) W' := by
  have hi3 : i < (J2.set i (hcR k J2[i])).length := by rw [List.length_set]; exact hi
  have g3 : (J2.set i (hcR k J2[i]))[i] = hcR k J2[i] := List.getElem_set_self _
  have := h.cnts (m := i) (C := (hcR k J2[i]).1.cs.set k ((hcR k J2[i]).1.cs[k].1, ((hcR k J2[i]).1.cs[k].2 + 1) % 18446744073709551616)) dj hi3 (by rw [g3]; exact hg) (by rw [g3]; exact hc)
  rw [g3, List.set_set, hc_step J2[i] k hk hkc] at this
  exact this
/-- What is asked and the law's two snapshots. -/
structure Kb (w : World) (A B : Sn) (ua ub lv : Value) (n : List UInt8) (num den : Int) (b1 b2 : Nat) (W : World) : Prop where
  ak : Ak w A B ua ub lv n num den W
  a1 : W.heap[b1]? = some (.cells #[.int .i64 A.p, ua, .int .u64 (A.r : Int)] 26 (0, 0))
  a2 : W.heap[b2]? = some (.cells #[.int .i64 B.p, ub, .int .u64 (B.r : Int)] 26 (0, 0))
set_option maxRecDepth 100000 in
set_option maxHeartbeats 16000000 in
theorem keeps_walk (A B : Sn) (ua ub lv : Value) (n : List UInt8) (lb : List La.Lb) (num den : Int) (w : World) (sA : SV w ua A.vs) (wA : SnW A) (lA : SnL A) (sB : SV w ub B.vs) (wB : SnW B) (lB : SnL B) (sl : SLb w lv lb) (hhA : ∀ x ∈ A.vs, x.d.help.length ≤ 140737488351232) :
    Calls Tryz.prog 8 #[.agg #[.int .i64 A.p, ua, .int .u64 (A.r : Int), .int .i64 B.p, ub, .int .u64 (B.r : Int), .string ⟨n.toArray⟩, lv, .int .i64 num, .int .i64 den]] w fun e w' => e = .returned (.bool true) ∧ Below w.heap.size w w' := by
  obtain ⟨ao, b1', o1', cp1, rfl, -⟩ := sA.open
  obtain ⟨bo, b2', o2', cp2, rfl, -⟩ := sB.open
  obtain ⟨la, lc, rfl⟩ := sl.form
  have HN : Hid (Ak w A B (.slice ao A.vs.length cp1) (.slice bo B.vs.length cp2) (.slice la lb.length lc) n num den (w.alloc (.cells #[.int .i64 A.p, .slice ao A.vs.length cp1, .int .u64 (A.r : Int), .int .i64 B.p, .slice bo B.vs.length cp2, .int .u64 (B.r : Int), .string ⟨n.toArray⟩, .slice la lb.length lc, .int .i64 num, .int .i64 den] 36))) := ⟨new_1 w _, bel1 _ _⟩
  go_enter Tryz.func8, Tryz.ntmps8
  go_upto_region 1 with fail
  generalize w.alloc (.cells #[.int .i64 A.p, .slice ao A.vs.length cp1, .int .u64 (A.r : Int), .int .i64 B.p, .slice bo B.vs.length cp2, .int .u64 (B.r : Int), .string ⟨n.toArray⟩, .slice la lb.length lc, .int .i64 num, .int .i64 den] 36) = w0 at HN ⊢
  go_cut [3, 4] from 23 to 26 (fun x y W => ∃ b1 b2, x = .pointer (some ⟨b1, 0, none⟩) ∧ y = .pointer (some ⟨b2, 0, none⟩) ∧ Hid (Kb w A B (.slice ao A.vs.length cp1) (.slice bo B.vs.length cp2) (.slice la lb.length lc) n num den b1 b2 W))
  case first =>
    obtain ⟨a0, a1, a2, a3, a4, a5, a6, a7, a8, a9⟩ := ten_cells HN.out.h
    have hs0 : w.heap.size < w0.heap.size := lt_of_cell a0
    go_region
    all_goals
      go_wp2_with fail
      go_meet
    · obtain ⟨k1, k2, k3⟩ := two_new w0 (.cells #[.int .i64 A.p, .slice ao A.vs.length cp1, .int .u64 (A.r : Int)] 26) (.cells #[.int .i64 B.p, .slice bo B.vs.length cp2, .int .u64 (B.r : Int)] 26)
      exact ⟨_, _, rfl, rfl, HN.out.below k3, k1, k2⟩
    · obtain ⟨k1, k2, k3⟩ := two_new w0 (.cells #[.int .i64 B.p, .slice bo B.vs.length cp2, .int .u64 (B.r : Int)] 26) (.cells #[.int .i64 A.p, .slice ao A.vs.length cp1, .int .u64 (A.r : Int)] 26)
      exact ⟨_, _, rfl, rfl, HN.out.below k3, k2, k1⟩
  case rest =>
  obtain ⟨b1, b2, rfl, rfl, HK⟩ := hcut
  obtain ⟨wb, hwb⟩ : ∃ x, x = wc := ⟨_, rfl⟩
  subst hwb
  clear HN
  have SA : Hid (SV wb (.slice ao A.vs.length cp1) A.vs) := sA.below HK.out.ak.bl
  have SB : Hid (SV wb (.slice bo B.vs.length cp2) B.vs) := sB.below HK.out.ak.bl
  have SL : Hid (SLb wb (.slice la lb.length lc) lb) := sl.below HK.out.ak.bl
  have HX : Hid (∀ W, Calls Tryz.prog 9 #[] W fun r w' => r = .returned (.bool true) ∧ Below W.heap.size W w') := fun W => fixed_any W
  have HFe : Hid (Calls Tryz.prog 15 #[.slice (some ⟨wb.heap.size, 0, none⟩) 2 2] (wb.alloc (.cells #[.int .i64 A.p, .slice ao A.vs.length cp1, .int .u64 (A.r : Int), .int .i64 B.p, .slice bo B.vs.length cp2, .int .u64 (B.r : Int)] 26)) fun e w' => e = .returned (.bool (decide (wgtS [A, B] ≤ 1048576))) ∧ Below (wb.alloc (.cells #[.int .i64 A.p, .slice ao A.vs.length cp1, .int .u64 (A.r : Int), .int .i64 B.p, .slice bo B.vs.length cp2, .int .u64 (B.r : Int)] 26)).heap.size (wb.alloc (.cells #[.int .i64 A.p, .slice ao A.vs.length cp1, .int .u64 (A.r : Int), .int .i64 B.p, .slice bo B.vs.length cp2, .int .u64 (B.r : Int)] 26)) w') := few_any wb.heap.size 2 [A, B] (by simp) _ (RowS.two SA.out SB.out _) (fun s hs x hx => by
    rcases List.mem_cons.1 hs with rfl | hs
    · exact ⟨(wA.vs x hx).cl, (lA x hx).1⟩
    · rw [List.mem_singleton] at hs
      subst hs
      exact ⟨(wB.vs x hx).cl, (lB x hx).1⟩)
  have hfl : wgtS [A, B] ≤ 1048576 → (A.vs.length ≤ 1048576 ∧ ∀ x ∈ A.vs, x.d.labels.length ≤ 1048576 ∧ x.cs.length ≤ 1048576) ∧ (B.vs.length ≤ 1048576 ∧ ∀ x ∈ B.vs, x.d.labels.length ≤ 1048576 ∧ x.cs.length ≤ 1048576) := fun h => by
    have e : wgtS [A, B] = wgtL A.vs + (wgtL B.vs + 0) := rfl
    have l1 := wgtL_len A.vs
    have l2 := wgtL_len B.vs
    refine ⟨⟨by omega, fun x hx => ?_⟩, by omega, fun x hx => ?_⟩
    · have := wgt_mem hx
      omega
    · have := wgt_mem hx
      omega
  have Hfl := hid_of hfl
  clear hfl
  obtain ⟨p0, p1, p2, _, _, _⟩ := three_cells HK.out.a1
  obtain ⟨q0, q1, q2, _, _, _⟩ := three_cells HK.out.a2
  by_cases hfew : wgtS [A, B] ≤ 1048576
  case neg =>
    rw [decide_eq_false hfew] at HFe
    clear hfew Hfl
    go_wp2_with (first
      | (go_at_call 15; (with_reducible refine HFe.out.mono ?_); rintro e w1 ⟨rfl, hb1⟩)
      | (go_at_call 9; (with_reducible refine (HX.out _).mono ?_); rintro e w2 ⟨rfl, hb2⟩))
    go_ret
    exact ⟨rfl, bt HK.out.ak.bl (bt (bel1 _ _) (bt hb1 hb2))⟩
  case pos =>
  rw [decide_eq_true hfew] at HFe
  obtain ⟨⟨lnA, fA⟩, lnB, fB⟩ := Hfl.out hfew
  clear hfew Hfl
  go_upto_region 4 with (go_at_call 15; (with_reducible refine HFe.out.mono ?_); rintro e w3 ⟨rfl, hb3⟩)
  have HB3 : Hid (Below wb.heap.size wb w3) := bt (bel1 _ _) hb3
  clear p0 p1 p2 q0 q1 q2 HFe hb3
  have HCa : Hid (∀ W, Below wb.heap.size wb W → Calls Tryz.prog 24 #[.agg #[.int .i64 A.p, .slice ao A.vs.length cp1, .int .u64 (A.r : Int)]] W fun e w' => CyQ W A e w') := fun W h => copy_any A _ W ⟨_, rfl, SA.out.below h⟩ lnA fA
  have HCb : Hid (∀ W, Below wb.heap.size wb W → Calls Tryz.prog 24 #[.agg #[.int .i64 B.p, .slice bo B.vs.length cp2, .int .u64 (B.r : Int)]] W fun e w' => CyQ W B e w') := fun W h => copy_any B _ W ⟨_, rfl, SB.out.below h⟩ lnB fB
  unfold CyQ at HCa HCb
  go_cut [5, 6] from 33 to 36 (fun x y W => ∃ b5 b6 uo uk J K s4 t4, x = .pointer (some ⟨b5, 0, none⟩) ∧ y = .pointer (some ⟨b6, 0, none⟩) ∧ Hid (K4 wb A B b5 b6 uo uk J K s4 t4 W))
  case first =>
    as_aux_lemma =>
      have HK3 : Hid (Kb w A B (.slice ao A.vs.length cp1) (.slice bo B.vs.length cp2) (.slice la lb.length lc) n num den b1 b2 w3) := ⟨HK.out.ak.below HB3.out, hkN HK.out.a1 HB3.out, hkN HK.out.a2 HB3.out⟩
      obtain ⟨p0, p1, p2, _, _, _⟩ := three_cells HK3.out.a1
      obtain ⟨q0, q1, q2, _, _, _⟩ := three_cells HK3.out.a2
      have hs1 : b1 < w3.heap.size := lt_of_cell p0
      have hs2 : b2 < w3.heap.size := lt_of_cell q0
      have HKp : Hid (∀ W1, Below wb.heap.size wb W1 → S4 A B (.slice ao A.vs.length cp1) (.slice bo B.vs.length cp2) b1 b2 W1) := fun W1 h => s4_of (hkN HK.out.a1 h) (hkN HK.out.a2 h)
      have hle3 : wb.heap.size ≤ w3.heap.size := HB3.out.size
      clear p0 p1 p2 q0 q1 q2 HX SA SB SL HK3 sA sB sl wA wB lA lB fA fB
      go_region_held3 (fun W => S4 A B (.slice ao A.vs.length cp1) (.slice bo B.vs.length cp2) b1 b2 W)
        (((with_reducible refine HKp.out _ ?_); repeat (first | with_reducible exact hB5w | with_reducible exact hB4 | with_reducible exact HB3.out | with_reducible refine belD ?_ | with_reducible refine belN _ ?_ | (with_reducible refine belT ?_ _ _ _ (by first | with_reducible assumption | omega)))))
        (first
          | (go_at_call 24; (with_reducible refine (HCa.out _ (by repeat (first | with_reducible exact HB3.out | with_reducible refine belD ?_ | with_reducible refine belN _ ?_))).mono ?_); rintro e w4 ⟨u4, J4, rfl, hb4, hJ4, hm4⟩; obtain ⟨a4, g4, n4, rfl, -⟩ := own_slice hJ4.g.own; have hB4 : Below wb.heap.size wb w4 := bt (by repeat (first | with_reducible exact HB3.out | with_reducible refine belD ?_ | with_reducible refine belN _ ?_)) hb4; have hB34 : Below w3.heap.size w3 w4 := bt (by repeat (first | with_reducible exact Below.refl _ _ | with_reducible refine belD ?_ | with_reducible refine belN _ ?_)) hb4; have hOJ : OR w3.heap.size (.slice a4 J4.length n4) J4 w4 := hJ4.or.mono (Below.size ((by repeat (first | with_reducible exact Below.refl _ _ | with_reducible refine belD ?_ | with_reducible refine belN _ ?_)) : Below w3.heap.size w3 _)); have hz1 : w4.heap[w3.heap.size]? = some (.cells #[.int .i64 0, .slice none 0 0, .int .u64 0] 26 (0, 0)) := hkN (two_new w3 _ _).1 hb4; obtain ⟨ya0, ya1, ya2, ga0, ga1, ga2⟩ := three_cells hz1; have hs3 : w3.heap.size < w4.heap.size := lt_of_cell ya0; have hz2 : w4.heap[w3.heap.size + 1]? = some (.cells #[.int .i64 0, .slice none 0 0, .int .u64 0] 26 (0, 0)) := hkN (two_new w3 _ _).2.1 hb4; obtain ⟨yb0, yb1, yb2, gb0, gb1, gb2⟩ := three_cells hz2; have hs4 : w3.heap.size + 1 < w4.heap.size := lt_of_cell yb0)
          | (go_at_call 24; (with_reducible refine (HCa.out _ (by repeat (first | with_reducible exact HB3.out | with_reducible refine belD ?_ | with_reducible refine belN _ ?_))).mono ?_); rintro e w4 ⟨u4, J4, rfl, hb4, hJ4, hm4⟩; obtain ⟨a4, g4, n4, rfl, -⟩ := own_slice hJ4.g.own; have hB4 : Below wb.heap.size wb w4 := bt (by repeat (first | with_reducible exact HB3.out | with_reducible refine belD ?_ | with_reducible refine belN _ ?_)) hb4; have hB34 : Below w3.heap.size w3 w4 := bt (by repeat (first | with_reducible exact Below.refl _ _ | with_reducible refine belD ?_ | with_reducible refine belN _ ?_)) hb4; have hOJ : OR w3.heap.size (.slice a4 J4.length n4) J4 w4 := hJ4.or.mono (Below.size ((by repeat (first | with_reducible exact Below.refl _ _ | with_reducible refine belD ?_ | with_reducible refine belN _ ?_)) : Below w3.heap.size w3 _)); have hz1 : w4.heap[w3.heap.size]? = some (.cells #[.int .i64 0, .slice none 0 0, .int .u64 0] 26 (0, 0)) := new_atd hb4; obtain ⟨ya0, ya1, ya2, ga0, ga1, ga2⟩ := three_cells hz1; have hs3 : w3.heap.size < w4.heap.size := lt_of_cell ya0; have hone : True := trivial)
          | (go_at_call 24; (with_reducible refine (HCa.out _ (by repeat (first | with_reducible exact HB3.out | with_reducible refine belD ?_ | with_reducible refine belN _ ?_))).mono ?_); rintro e w4 ⟨u4, J4, rfl, hb4, hJ4, hm4⟩; obtain ⟨a4, g4, n4, rfl, -⟩ := own_slice hJ4.g.own; have hB4 : Below wb.heap.size wb w4 := bt (by repeat (first | with_reducible exact HB3.out | with_reducible refine belD ?_ | with_reducible refine belN _ ?_)) hb4; have hB34 : Below w3.heap.size w3 w4 := bt (by repeat (first | with_reducible exact Below.refl _ _ | with_reducible refine belD ?_ | with_reducible refine belN _ ?_)) hb4; have hOJ : OR w3.heap.size (.slice a4 J4.length n4) J4 w4 := hJ4.or.mono (Below.size ((by repeat (first | with_reducible exact Below.refl _ _ | with_reducible refine belD ?_ | with_reducible refine belN _ ?_)) : Below w3.heap.size w3 _)); have hnone : True := trivial)
          | (go_at_call 24; (with_reducible refine (HCb.out _ (by repeat (first | with_reducible exact hB4 | with_reducible refine belD ?_ | with_reducible refine belN _ ?_))).mono ?_); rintro e w5 ⟨u5, J5, rfl, hb5, hJ5, hm5⟩; obtain ⟨a5, g5, n5, rfl, -⟩ := own_slice hJ5.g.own; have hB5w : Below wb.heap.size wb w5 := bt (by repeat (first | with_reducible exact hB4 | with_reducible refine belD ?_ | with_reducible refine belN _ ?_)) hb5; have hle4 : wb.heap.size ≤ w4.heap.size := hB4.size; have hle5 : wb.heap.size ≤ w5.heap.size := hB5w.size; have hB5 : Below w4.heap.size w4 w5 := bt (by repeat (first | with_reducible exact Below.refl _ _ | with_reducible refine belD ?_ | with_reducible refine belN _ ?_)) hb5; have hOK : OR w4.heap.size (.slice a5 J5.length n5) J5 w5 := hJ5.or.mono (Below.size ((by repeat (first | with_reducible exact Below.refl _ _ | with_reducible refine belD ?_ | with_reducible refine belN _ ?_)) : Below w4.heap.size w4 _)); have hz1' : w5.heap[w3.heap.size]? = some (.cells #[.int .i64 0, .slice none 0 0, .int .u64 0] 26 (0, 0)) := hkN hz1 hB5; obtain ⟨yc0, yc1, yc2, gc0, gc1, gc2⟩ := three_cells hz1'; have hs3' : w3.heap.size < w5.heap.size := lt_of_cell yc0; have hz2' : w5.heap[w3.heap.size + 1]? = some (.cells #[.int .i64 0, .slice none 0 0, .int .u64 0] 26 (0, 0)) := hkN hz2 hB5; obtain ⟨yd0, yd1, yd2, gd0, gd1, gd2⟩ := three_cells hz2'; have hs4' : w3.heap.size + 1 < w5.heap.size := lt_of_cell yd0)
          | (go_at_call 24; (with_reducible refine (HCb.out _ (by repeat (first | with_reducible exact hB4 | with_reducible refine belD ?_ | with_reducible refine belN _ ?_))).mono ?_); rintro e w5 ⟨u5, J5, rfl, hb5, hJ5, hm5⟩; obtain ⟨a5, g5, n5, rfl, -⟩ := own_slice hJ5.g.own; have hB5w : Below wb.heap.size wb w5 := bt (by repeat (first | with_reducible exact hB4 | with_reducible refine belD ?_ | with_reducible refine belN _ ?_)) hb5; have hle4 : wb.heap.size ≤ w4.heap.size := hB4.size; have hle5 : wb.heap.size ≤ w5.heap.size := hB5w.size; have hB5 : Below w4.heap.size w4 w5 := bt (by repeat (first | with_reducible exact Below.refl _ _ | with_reducible refine belD ?_ | with_reducible refine belN _ ?_)) hb5; have hOK : OR w4.heap.size (.slice a5 J5.length n5) J5 w5 := hJ5.or.mono (Below.size ((by repeat (first | with_reducible exact Below.refl _ _ | with_reducible refine belD ?_ | with_reducible refine belN _ ?_)) : Below w4.heap.size w4 _)); have hz1' : w5.heap[w3.heap.size]? = some (.cells #[.int .i64 0, .slice none 0 0, .int .u64 0] 26 (0, 0)) := hkN hz1 hB5; obtain ⟨yc0, yc1, yc2, gc0, gc1, gc2⟩ := three_cells hz1'; have hs3' : w3.heap.size < w5.heap.size := lt_of_cell yc0; have hz3 : w5.heap[w4.heap.size]? = some (.cells #[.int .i64 0, .slice none 0 0, .int .u64 0] 26 (0, 0)) := hkN (new_1 w4 _) hb5; obtain ⟨yf0, yf1, yf2, gf0, gf1, gf2⟩ := three_cells hz3; have hs5 : w4.heap.size < w5.heap.size := lt_of_cell yf0)
          | (go_at_call 24; (with_reducible refine (HCb.out _ (by repeat (first | with_reducible exact hB4 | with_reducible refine belD ?_ | with_reducible refine belN _ ?_))).mono ?_); rintro e w5 ⟨u5, J5, rfl, hb5, hJ5, hm5⟩; obtain ⟨a5, g5, n5, rfl, -⟩ := own_slice hJ5.g.own; have hB5w : Below wb.heap.size wb w5 := bt (by repeat (first | with_reducible exact hB4 | with_reducible refine belD ?_ | with_reducible refine belN _ ?_)) hb5; have hle4 : wb.heap.size ≤ w4.heap.size := hB4.size; have hle5 : wb.heap.size ≤ w5.heap.size := hB5w.size; have hB5 : Below w4.heap.size w4 w5 := bt (by repeat (first | with_reducible exact Below.refl _ _ | with_reducible refine belD ?_ | with_reducible refine belN _ ?_)) hb5; have hOK : OR w4.heap.size (.slice a5 J5.length n5) J5 w5 := hJ5.or.mono (Below.size ((by repeat (first | with_reducible exact Below.refl _ _ | with_reducible refine belD ?_ | with_reducible refine belN _ ?_)) : Below w4.heap.size w4 _)); have hz1' : w5.heap[w3.heap.size]? = some (.cells #[.int .i64 0, .slice none 0 0, .int .u64 0] 26 (0, 0)) := hkN hz1 hB5; obtain ⟨yc0, yc1, yc2, gc0, gc1, gc2⟩ := three_cells hz1'; have hs3' : w3.heap.size < w5.heap.size := lt_of_cell yc0)
          | (go_at_call 24; (with_reducible refine (HCb.out _ (by repeat (first | with_reducible exact hB4 | with_reducible refine belD ?_ | with_reducible refine belN _ ?_))).mono ?_); rintro e w5 ⟨u5, J5, rfl, hb5, hJ5, hm5⟩; obtain ⟨a5, g5, n5, rfl, -⟩ := own_slice hJ5.g.own; have hB5w : Below wb.heap.size wb w5 := bt (by repeat (first | with_reducible exact hB4 | with_reducible refine belD ?_ | with_reducible refine belN _ ?_)) hb5; have hle4 : wb.heap.size ≤ w4.heap.size := hB4.size; have hle5 : wb.heap.size ≤ w5.heap.size := hB5w.size; have hB5 : Below w4.heap.size w4 w5 := bt (by repeat (first | with_reducible exact Below.refl _ _ | with_reducible refine belD ?_ | with_reducible refine belN _ ?_)) hb5; have hOK : OR w4.heap.size (.slice a5 J5.length n5) J5 w5 := hJ5.or.mono (Below.size ((by repeat (first | with_reducible exact Below.refl _ _ | with_reducible refine belD ?_ | with_reducible refine belN _ ?_)) : Below w4.heap.size w4 _)); have hz3 : w5.heap[w4.heap.size]? = some (.cells #[.int .i64 0, .slice none 0 0, .int .u64 0] 26 (0, 0)) := hkN (two_new0 w4 _ _).1 hb5; obtain ⟨yf0, yf1, yf2, gf0, gf1, gf2⟩ := three_cells hz3; have hs5 : w4.heap.size < w5.heap.size := lt_of_cell yf0; have hz4 : w5.heap[w4.heap.size + 1]? = some (.cells #[.int .i64 0, .slice none 0 0, .int .u64 0] 26 (0, 0)) := hkN (two_new0 w4 _ _).2 hb5; obtain ⟨yg0, yg1, yg2, gg0, gg1, gg2⟩ := three_cells hz4; have hs6 : w4.heap.size + 1 < w5.heap.size := lt_of_cell yg0)
          | (go_at_call 24; (with_reducible refine (HCb.out _ (by repeat (first | with_reducible exact hB4 | with_reducible refine belD ?_ | with_reducible refine belN _ ?_))).mono ?_); rintro e w5 ⟨u5, J5, rfl, hb5, hJ5, hm5⟩; obtain ⟨a5, g5, n5, rfl, -⟩ := own_slice hJ5.g.own; have hB5w : Below wb.heap.size wb w5 := bt (by repeat (first | with_reducible exact hB4 | with_reducible refine belD ?_ | with_reducible refine belN _ ?_)) hb5; have hle4 : wb.heap.size ≤ w4.heap.size := hB4.size; have hle5 : wb.heap.size ≤ w5.heap.size := hB5w.size; have hB5 : Below w4.heap.size w4 w5 := bt (by repeat (first | with_reducible exact Below.refl _ _ | with_reducible refine belD ?_ | with_reducible refine belN _ ?_)) hb5; have hOK : OR w4.heap.size (.slice a5 J5.length n5) J5 w5 := hJ5.or.mono (Below.size ((by repeat (first | with_reducible exact Below.refl _ _ | with_reducible refine belD ?_ | with_reducible refine belN _ ?_)) : Below w4.heap.size w4 _)); have hz3 : w5.heap[w4.heap.size]? = some (.cells #[.int .i64 0, .slice none 0 0, .int .u64 0] 26 (0, 0)) := hkN (new_1 w4 _) hb5; obtain ⟨yf0, yf1, yf2, gf0, gf1, gf2⟩ := three_cells hz3; have hs5 : w4.heap.size < w5.heap.size := lt_of_cell yf0)
          | (go_at_call 24; (with_reducible refine (HCb.out _ (by repeat (first | with_reducible exact hB4 | with_reducible refine belD ?_ | with_reducible refine belN _ ?_))).mono ?_); rintro e w5 ⟨u5, J5, rfl, hb5, hJ5, hm5⟩; obtain ⟨a5, g5, n5, rfl, -⟩ := own_slice hJ5.g.own; have hB5w : Below wb.heap.size wb w5 := bt (by repeat (first | with_reducible exact hB4 | with_reducible refine belD ?_ | with_reducible refine belN _ ?_)) hb5; have hle4 : wb.heap.size ≤ w4.heap.size := hB4.size; have hle5 : wb.heap.size ≤ w5.heap.size := hB5w.size; have hB5 : Below w4.heap.size w4 w5 := bt (by repeat (first | with_reducible exact Below.refl _ _ | with_reducible refine belD ?_ | with_reducible refine belN _ ?_)) hb5; have hOK : OR w4.heap.size (.slice a5 J5.length n5) J5 w5 := hJ5.or.mono (Below.size ((by repeat (first | with_reducible exact Below.refl _ _ | with_reducible refine belD ?_ | with_reducible refine belN _ ?_)) : Below w4.heap.size w4 _))))
      all_goals
        go_wp2_with fail
        go_meet
        have hk : KB4 wb A B (.slice a4 J4.length n4) (.slice a5 J5.length n5) J4 J5 w3.heap.size w4.heap.size w5 := ⟨hOJ.below hB5, hOK, hJ4.dj, hm4, hm5, fun g hg => (hOJ.bk g hg).2, hle3, hB34.size, hB5.size, hB5w⟩
        refine ⟨_, _, .slice a4 J4.length n4, .slice a5 J5.length n5, J4, J5, w3.heap.size, w4.heap.size, rfl, rfl, ?_⟩
        first
          | exact hk.s1
          | exact hk.s2
          | exact hk.s3 hz3 (by omega)
          | exact hk.s3 hz1' (by omega)
          | exact hk.s4 hz3 (by omega)
          | exact hk.s4 hz1' (by omega)
          | exact hk.s5 hz3 hz4 (by omega) (by omega) (by omega)
          | exact hk.s5 hz4 hz3 (by omega) (by omega) (by omega)
          | exact hk.s5 hz1' hz3 (by omega) (by omega) (by omega)
          | exact hk.s5 hz1' hz2' (by omega) (by omega) (by omega)
          | exact hk.s5 hz3 hz1' (by omega) (by omega) (by omega)
          | exact hk.s5 hz2' hz1' (by omega) (by omega) (by omega)
  case rest =>
  obtain ⟨b5, b6, uo, uk, J, K, s4, t4, rfl, rfl, H4⟩ := hcut
  obtain ⟨w5, hw5⟩ : ∃ x, x = wc := ⟨_, rfl⟩
  subst hw5
  clear HCa HCb HB3
  obtain ⟨oo, go', co, rfl, hpo, -⟩ := own_slice H4.out.oj.own
  obtain ⟨ko, gk, ck, rfl, -⟩ := own_slice H4.out.ok.own
  have HRm : Hid (∀ W, Below wb.heap.size wb W → Calls Tryz.prog 13 #[.agg #[.int .i64 A.p, .slice ao A.vs.length cp1, .int .u64 (A.r : Int)], .agg #[.int .i64 B.p, .slice bo B.vs.length cp2, .int .u64 (B.r : Int)]] W fun e w' => RwQ wb W A B e w') := fun W h => rmerge_at A B _ _ wA wB wb W h ⟨_, rfl, SA.out⟩ ⟨_, rfl, SB.out⟩
  have HMg : Hid (∀ W x y, SV W x A.vs → SV W y B.vs → Calls Tryz.prog 12 #[.agg #[.int .i64 A.p, x, .int .u64 (A.r : Int)], .agg #[.int .i64 B.p, y, .int .u64 (B.r : Int)]] W fun e w' => MgQ W A B e w') := fun W x y h1 h2 => merge_any A B _ _ wA wB W ⟨x, rfl, h1⟩ ⟨y, rfl, h2⟩
  have HSA : Hid (∀ W x y, SV W x A.vs → SV W y A.vs → Calls Tryz.prog 14 #[.agg #[.int .i64 A.p, x, .int .u64 (A.r : Int)], .agg #[.int .i64 A.p, y, .int .u64 (A.r : Int)]] W fun e w' => e = .returned (.bool true) ∧ Below W.heap.size W w') := fun W x y h1 h2 => by
    have := rsames_any A A _ _ wA wA W ⟨x, rfl, h1⟩ ⟨y, rfl, h2⟩
    rw [smS_refl] at this
    exact this
  have HSB : Hid (∀ W x y, SV W x B.vs → SV W y B.vs → Calls Tryz.prog 14 #[.agg #[.int .i64 B.p, x, .int .u64 (B.r : Int)], .agg #[.int .i64 B.p, y, .int .u64 (B.r : Int)]] W fun e w' => e = .returned (.bool true) ∧ Below W.heap.size W w') := fun W x y h1 h2 => by
    have := rsames_any B B _ _ wB wB W ⟨x, rfl, h1⟩ ⟨y, rfl, h2⟩
    rw [smS_refl] at this
    exact this
  have HSM : Hid (∀ W x y, SV W x (mgS A B).1.vs → SV W y (mgS A B).1.vs → Calls Tryz.prog 14 #[.agg #[.int .i64 (mgS A B).1.p, x, .int .u64 ((mgS A B).1.r : Int)], .agg #[.int .i64 (mgS A B).1.p, y, .int .u64 ((mgS A B).1.r : Int)]] W fun e w' => e = .returned (.bool true) ∧ Below W.heap.size W w') := fun W x y h1 h2 => by
    have := rsames_any (mgS A B).1 (mgS A B).1 _ _ (mg_w wA wB) (mg_w wA wB) W ⟨x, rfl, h1⟩ ⟨y, rfl, h2⟩
    rw [smS_refl] at this
    exact this
  have HMb : Hid ((mgS A B).1.vs.length ≤ 1048576 ∧ ∀ x ∈ (mgS A B).1.vs, x.d.labels.length ≤ 1048576 ∧ x.cs.length ≤ 1048576) := by
    unfold Hid
    by_cases h : (mgS A B).2 = 0
    · obtain ⟨l1, l2⟩ := chk_len (mg_w wA wB) (by rw [mg_chk wA wB h])
      exact ⟨by omega, l2⟩
    · rw [mg_not h]
      exact ⟨Nat.zero_le _, fun x hx => by cases hx⟩
  have HF1 : Hid (∀ W x y, SV W x A.vs → SLb W y lb → Calls Tryz.prog 16 #[.agg #[.int .i64 A.p, x, .int .u64 (A.r : Int)], .string ⟨n.toArray⟩, y] W fun e w' => FnQ W A n lb e w') := fun W x y h1 h2 => find_any A _ n _ lb W ⟨x, rfl, h1⟩ h2 fA
  have HF2 : Hid (∀ W x y, SV W x A.vs → SLb W y lb → Calls Tryz.prog 17 #[.agg #[.int .i64 A.p, x, .int .u64 (A.r : Int)], .string ⟨n.toArray⟩, y] W fun e w' => RfQ W A n lb e w') := fun W x y h1 h2 => rfind_any A _ n _ lb W ⟨x, rfl, h1⟩ h2
  have HVw := hid_of (fnd_w wA n lb)
  have HVl : Hid ((fndS A n lb).1.d.labels.length ≤ 1048576 ∧ (fndS A n lb).1.cs.length ≤ 1048576) := by
    unfold Hid
    rw [fnd_lk]
    cases h : lk A.vs (n, lb) with
    | none => exact ⟨Nat.zero_le _, Nat.zero_le _⟩
    | some x => exact fA x (lk_mem7 h).1
  unfold RwQ at HRm
  unfold MgQ at HMg
  unfold FnQ at HF1
  unfold RfQ at HF2
  generalize mgS A B = MM at *
  obtain ⟨M, em⟩ := MM
  generalize fndS A n lb = FV at *
  obtain ⟨V, ev⟩ := FV
  simp only at HRm HMg HSM HMb HF1 HF2 HVw HVl
  obtain ⟨p0, p1, p2, _, _, _⟩ := three_cells (hkN HK.out.a1 H4.out.bl)
  obtain ⟨q0, q1, q2, _, _, _⟩ := three_cells (hkN HK.out.a2 H4.out.bl)
  go_upto_region 6 with (go_at_call 13; (with_reducible refine (HRm.out _ H4.out.bl).mono ?_); rintro e w6 ⟨ux, Rw, rfl, hx6, he6, hm6, hb6⟩; obtain ⟨xo, xg, xc, rfl, -⟩ := own_slice hx6)
  have HW6 := hid_of (Wn.new (.cells #[.int .i64 M.p, .slice xo Rw.length xc, .int .u64 (M.r : Int)] 26) hx6 he6 (bt H4.out.bl hb6))
  have HA7 := hid_of (new_1 w6 (.cells #[.int .i64 M.p, .slice xo Rw.length xc, .int .u64 (M.r : Int)] 26))
  have H46 := hid_of (H4.out.below (bt hb6 (bel1 w6 (.cells #[.int .i64 M.p, .slice xo Rw.length xc, .int .u64 (M.r : Int)] 26))))
  have HRw := hid_of hm6
  have Hs5 : Hid (w5.heap.size ≤ (w6.alloc (.cells #[.int .i64 M.p, .slice xo Rw.length xc, .int .u64 (M.r : Int)] 26)).heap.size) := (bt hb6 (bel1 w6 (.cells #[.int .i64 M.p, .slice xo Rw.length xc, .int .u64 (M.r : Int)] 26))).size
  have Ht5 : Hid (t4 ≤ w5.heap.size) := H4.out.hw
  generalize w6.alloc (.cells #[.int .i64 M.p, .slice xo Rw.length xc, .int .u64 (M.r : Int)] 26) = P6 at HW6 HA7 H46 Hs5 ⊢
  generalize w6.heap.size = b7 at HA7 ⊢
  clear p0 p1 p2 q0 q1 q2 HRm hx6 he6 hm6 hb6 H4
  generalize w5.heap.size = s5 at *
  obtain ⟨p0, p1, p2, _, _, _⟩ := three_cells H46.out.a5
  obtain ⟨q0, q1, q2, _, _, _⟩ := three_cells H46.out.a6
  go_upto_region 7 with (go_at_call 12; (with_reducible refine (HMg.out _ _ _ H46.out.svJ H46.out.svK).mono ?_); rintro e w7 ⟨um, Jm, rfl, hb7, hJm, hmm⟩; obtain ⟨mo, mg, mc, rfl, -⟩ := own_slice hJm.g.own)
  have hbn := bel1 w7 (.cells #[.int .i64 M.p, .slice mo Jm.length mc, .int .u64 (M.r : Int)] 26)
  have HA9 := hid_of (new_1 w7 (.cells #[.int .i64 M.p, .slice mo Jm.length mc, .int .u64 (M.r : Int)] 26))
  have HB7 := hid_of (bt hb7 hbn)
  have HOm := hid_of (hJm.or.below hbn)
  have HDm := hid_of hJm.dj
  have Hmm := hid_of hmm
  generalize w7.alloc (.cells #[.int .i64 M.p, .slice mo Jm.length mc, .int .u64 (M.r : Int)] 26) = P7 at HA9 HB7 HOm ⊢
  generalize w7.heap.size = b9 at HA9 ⊢
  clear p0 p1 p2 q0 q1 q2 hb7 hJm hmm hbn
  have H47 := hid_of (H46.out.below HB7.out)
  obtain ⟨p0, p1, p2, _, _, _⟩ := three_cells H47.out.a5
  obtain ⟨q0, q1, q2, _, _, _⟩ := three_cells H47.out.a6
  go_upto_region 8 with (go_at_call 12; (with_reducible refine (HMg.out _ _ _ H47.out.svJ H47.out.svK).mono ?_); rintro e w8 ⟨un, Jn, rfl, hb8, hJn, hmn⟩; obtain ⟨no, ng, nc, rfl, -⟩ := own_slice hJn.g.own)
  have hbn := bel1 w8 (.cells #[.int .i64 M.p, .slice no Jn.length nc, .int .u64 (M.r : Int)] 26)
  have HK8 : Hid (K8 P6.heap.size P7.heap.size M b9 w8.heap.size (.slice mo Jm.length mc) (.slice no Jn.length nc) Jm Jn (w8.alloc (.cells #[.int .i64 M.p, .slice no Jn.length nc, .int .u64 (M.r : Int)] 26))) := ⟨hkN HA9.out (bt hb8 hbn), new_1 _ _, HOm.out.below (bt hb8 hbn), hJn.or.below hbn, HDm.out, Hmm.out, hmn, fun g hg => (HOm.out.bk g hg).2, HB7.out.size, (bt hb8 hbn).size⟩
  have HB8 : Hid (Below P6.heap.size P6 (w8.alloc (.cells #[.int .i64 M.p, .slice no Jn.length nc, .int .u64 (M.r : Int)] 26))) := bt HB7.out (bt hb8 hbn)
  generalize w8.alloc (.cells #[.int .i64 M.p, .slice no Jn.length nc, .int .u64 (M.r : Int)] 26) = P8 at HK8 HB8 ⊢
  generalize w8.heap.size = b11 at HK8 ⊢
  clear p0 p1 p2 q0 q1 q2 hb8 hJn hmn hbn H47 HA9 HB7 HOm HDm Hmm HMg
  generalize P7.heap.size = s7 at *
  have HSw : Hid (∀ W, Below P6.heap.size P6 W → SV W (.slice xo Rw.length xc) M.vs) := fun W h => by
    have := (HW6.out.below h).sv (Nat.le_trans Hs5.out h.size)
    rw [HRw.out] at this
    exact this
  have hee : (em != em) = false := by simp
  have c9 := three_cells HK8.out.a9
  have c7 := three_cells (hkN HA7.out HB8.out)
  obtain ⟨p0, p1, p2, _, _, _⟩ := c9
  obtain ⟨q0, q1, q2, _, _, _⟩ := c7
  go_upto_region 10 with (first
    | (go_at_call 14; (with_reducible refine (HSM.out _ _ _ HK8.out.svM (HSw.out _ HB8.out)).mono ?_); rintro e x1 ⟨rfl, hx1⟩; have hX1 : Below P6.heap.size P6 x1 := bt HB8.out hx1; have HX1 := hid_of hX1; obtain ⟨r0, r1, r2, _, _, _⟩ := three_cells (H46.out.below hX1).a5; obtain ⟨t0, t1, t2, _, _, _⟩ := three_cells (hkN HK.out.a1 (bt H46.out.bl hX1)))
    | (go_at_call 14; (with_reducible refine (HSA.out _ _ _ (H46.out.below HX1.out).svJ (SA.out.below (bt H46.out.bl HX1.out))).mono ?_); rintro e x2 ⟨rfl, hx2⟩; have hX2 : Below P6.heap.size P6 x2 := bt HX1.out hx2; have HX2 := hid_of hX2; obtain ⟨k0, k1, k2, _, _, _⟩ := three_cells (H46.out.below hX2).a6; obtain ⟨l0, l1, l2, _, _, _⟩ := three_cells (hkN HK.out.a2 (bt H46.out.bl hX2)))
    | (go_at_call 14; (with_reducible refine (HSB.out _ _ _ (H46.out.below HX2.out).svK (SB.out.below (bt H46.out.bl HX2.out))).mono ?_); rintro e x3 ⟨rfl, hx3⟩))
  have HB9 := hid_of (bt HX2.out hx3)
  have HK9 := hid_of (HK8.out.below (bt hx1 (bt hx2 hx3)))
  clear p0 p1 p2 q0 q1 q2 r0 r1 r2 t0 t1 t2 k0 k1 k2 l0 l1 l2 HX1 HX2 hX1 hX2 hx1 hx2 hx3 HK8 HB8 hee
  obtain ⟨p0, p1, p2, _, _, _⟩ := three_cells HK9.out.a9
  have HSp : Hid (∀ _ : Unit, _) := fun _ => spoil_any M.p M.r (.slice mo Jm.length mc) P6.heap.size Jm 1 (Or.inl rfl) x3 HK9.out.om (Nat.le_trans HK9.out.h6 HK9.out.h7) HK9.out.dm (by have := HMb.out.1; rw [← HK9.out.mm, List.length_map] at this; exact this) (fun q hq => HMb.out.2 q.1 (by rw [← HK9.out.mm]; exact List.mem_map_of_mem hq))
  go_upto_region 11 with (go_at_call 25; (with_reducible refine (HSp.out ()).mono ?_); rintro e w10 ⟨rfl, hc10, hq10⟩)
  obtain ⟨hK10, hB10⟩ := HK9.out.spoil hc10 hq10
  have HK10 := hid_of hK10
  have HB10 : Hid (Below P6.heap.size P6 w10) := HB9.out.trans hB10
  clear p0 p1 p2 HSp hc10 hq10 hK10 hB10 HK9 HB9
  have HSt : Hid (∀ W, K10 P6.heap.size s7 M b9 b11 (.slice mo Jm.length mc) (.slice no Jn.length nc) Jm Jn W → Calls Tryz.prog 26 #[.agg #[.int .i64 M.p, .slice mo Jm.length mc, .int .u64 (M.r : Int)], .int .i64 1] W fun e w' => e = .returned (.bool true) ∧ Below W.heap.size W w') := fun W k => spoilt_any M.p M.r (.slice mo Jm.length mc) P6.heap.size Jm 1 (Or.inl rfl) W k.sm
  obtain ⟨p0, p1, p2, _, _, _⟩ := three_cells HK10.out.a9
  go_upto_region 13 with (first
    | (go_at_call 26; (with_reducible refine (HSt.out _ HK10.out).mono ?_); rintro e x1 ⟨rfl, hx1⟩; have hX1 : Below P6.heap.size P6 x1 := bt HB10.out hx1; have HX1 := hid_of hX1; have HY1 := hid_of (HK10.out.below hx1); obtain ⟨r0, r1, r2, _, _, _⟩ := three_cells HY1.out.a11; obtain ⟨t0, t1, t2, _, _, _⟩ := three_cells (hkN HA7.out hX1))
    | (go_at_call 14; (with_reducible refine (HSM.out _ _ _ HY1.out.svN (HSw.out _ HX1.out)).mono ?_); rintro e x2 ⟨rfl, hx2⟩; have hX2 : Below P6.heap.size P6 x2 := bt HX1.out hx2; have HX2 := hid_of hX2; obtain ⟨k0, k1, k2, _, _, _⟩ := three_cells (H46.out.below hX2).a5; obtain ⟨l0, l1, l2, _, _, _⟩ := three_cells (hkN HK.out.a1 (bt H46.out.bl hX2)))
    | (go_at_call 14; (with_reducible refine (HSA.out _ _ _ (H46.out.below HX2.out).svJ (SA.out.below (bt H46.out.bl HX2.out))).mono ?_); rintro e x4 ⟨rfl, hx4⟩; have hX4 : Below P6.heap.size P6 x4 := bt HX2.out hx4; have HX4 := hid_of hX4; obtain ⟨m0, m1, m2, _, _, _⟩ := three_cells (H46.out.below hX4).a6; obtain ⟨o0, o1, o2, _, _, _⟩ := three_cells (hkN HK.out.a2 (bt H46.out.bl hX4)))
    | (go_at_call 14; (with_reducible refine (HSB.out _ _ _ (H46.out.below HX4.out).svK (SB.out.below (bt H46.out.bl HX4.out))).mono ?_); rintro e P13 ⟨rfl, hx5⟩))
  have HB13 : Hid (Below P6.heap.size P6 P13) := bt HX4.out hx5
  have HK13 := hid_of (HY1.out.below (bt hx2 (bt hx4 hx5)))
  clear p0 p1 p2 r0 r1 r2 t0 t1 t2 k0 k1 k2 l0 l1 l2 m0 m1 m2 o0 o1 o2 HX1 HX2 HX4 hX1 hX2 hX4 hx1 hx2 hx4 hx5 HY1 HK10 HB10
  have sF := store_f
  have HAk : Hid (∀ W, Below P6.heap.size P6 W → Ak w A B (.slice ao A.vs.length cp1) (.slice bo B.vs.length cp2) (.slice la lb.length lc) n num den W) := fun W h => HK.out.ak.below (bt H46.out.bl h)
  obtain ⟨p0, p1, p2, _, _, _⟩ := three_cells (H46.out.below HB13.out).a5
  obtain ⟨a0, a1, a2, a3, a4, a5, a6, a7, a8, a9⟩ := ten_cells (HAk.out _ HB13.out).h
  go_upto_region 14 with (go_at_call 16; (with_reducible refine (HF1.out _ _ _ (H46.out.below HB13.out).svJ (SL.out.below (bt H46.out.bl HB13.out))).mono ?_); rintro e w14 ⟨l4, c4, rfl, hl4, hc4, hb4⟩; obtain ⟨l4a, l4b, l4c, rfl, -⟩ := own_slice hl4; obtain ⟨c4a, c4b, c4c, rfl, -⟩ := own_slice hc4)
  have hbn := bel1 w14 (.cells (vc V (.slice l4a V.d.labels.length l4c) (.slice c4a V.cs.length c4c)) 45)
  have HV1 : Hid (Vo w14.heap.size P13.heap.size V (.slice l4a V.d.labels.length l4c) (.slice c4a V.cs.length c4c) (w14.alloc (.cells (vc V (.slice l4a V.d.labels.length l4c) (.slice c4a V.cs.length c4c)) 45))) := ⟨newB11 w14 V _ _ _, own_belG hl4 hbn, own_belG hc4 hbn⟩
  have HB14 := hid_of (bt hb4 hbn)
  obtain ⟨P14, hP14⟩ : ∃ x, w14.alloc (.cells (vc V (.slice l4a V.d.labels.length l4c) (.slice c4a V.cs.length c4c)) 45) = x := ⟨_, rfl⟩
  rw [hP14] at HV1 HB14
  simp only [vc] at hP14
  rw [hP14]
  clear hP14 p0 p1 p2 a0 a1 a2 a3 a4 a5 a6 a7 a8 a9 hl4 hc4 hb4 hbn
  generalize w14.heap.size = b13 at *
  have HC14 := hid_of (bt HB13.out HB14.out)
  obtain ⟨p0, p1, p2, _, _, _⟩ := three_cells (H46.out.below HC14.out).a5
  obtain ⟨a0, a1, a2, a3, a4, a5, a6, a7, a8, a9⟩ := ten_cells (HAk.out _ HC14.out).h
  go_upto_region 15 with (go_at_call 16; (with_reducible refine (HF1.out _ _ _ (H46.out.below HC14.out).svJ (SL.out.below (bt H46.out.bl HC14.out))).mono ?_); rintro e w15 ⟨l5, c5, rfl, hl5, hc5, hb5⟩; obtain ⟨l5a, l5b, l5c, rfl, -⟩ := own_slice hl5; obtain ⟨c5a, c5b, c5c, rfl, -⟩ := own_slice hc5)
  have hbn := bel1 w15 (.cells (vc V (.slice l5a V.d.labels.length l5c) (.slice c5a V.cs.length c5c)) 45)
  have HV2 : Hid (Vo w15.heap.size P14.heap.size V (.slice l5a V.d.labels.length l5c) (.slice c5a V.cs.length c5c) (w15.alloc (.cells (vc V (.slice l5a V.d.labels.length l5c) (.slice c5a V.cs.length c5c)) 45))) := ⟨newB11 w15 V _ _ _, own_belG hl5 hbn, own_belG hc5 hbn⟩
  have HB15 := hid_of (bt hb5 hbn)
  obtain ⟨P15, hP15⟩ : ∃ x, w15.alloc (.cells (vc V (.slice l5a V.d.labels.length l5c) (.slice c5a V.cs.length c5c)) 45) = x := ⟨_, rfl⟩
  rw [hP15] at HV2 HB15
  simp only [vc] at hP15
  rw [hP15]
  clear hP15 p0 p1 p2 a0 a1 a2 a3 a4 a5 a6 a7 a8 a9 hl5 hc5 hb5 hbn HF1
  generalize w15.heap.size = b14 at *
  have HC15 := hid_of (bt HC14.out HB15.out)
  obtain ⟨p0, p1, p2, _, _, _⟩ := three_cells (hkN HK.out.a1 (bt H46.out.bl HC15.out))
  obtain ⟨a0, a1, a2, a3, a4, a5, a6, a7, a8, a9⟩ := ten_cells (HAk.out _ HC15.out).h
  go_upto_region 16 with (go_at_call 17; (with_reducible refine (HF2.out _ _ _ (SA.out.below (bt H46.out.bl HC15.out)) (SL.out.below (bt H46.out.bl HC15.out))).mono ?_); rintro e w16 ⟨l6a, l6c, c6a, c6c, rfl, hl6, hc6, hb6⟩)
  have hbn := bel1 w16 (.cells (vc V (.slice l6a V.d.labels.length l6c) (.slice c6a V.cs.length c6c)) 45)
  have HV3 : Hid (Vb w16.heap.size V (.slice l6a V.d.labels.length l6c) (.slice c6a V.cs.length c6c) (w16.alloc (.cells (vc V (.slice l6a V.d.labels.length l6c) (.slice c6a V.cs.length c6c)) 45))) := ⟨newB11 w16 V _ _ _, (hl6.below hb6).below hbn, (hc6.below hb6).below hbn⟩
  have HB16 := hid_of (bt hb6 hbn)
  obtain ⟨P16, hP16⟩ : ∃ x, w16.alloc (.cells (vc V (.slice l6a V.d.labels.length l6c) (.slice c6a V.cs.length c6c)) 45) = x := ⟨_, rfl⟩
  rw [hP16] at HV3 HB16
  simp only [vc] at hP16
  rw [hP16]
  clear hP16 p0 p1 p2 a0 a1 a2 a3 a4 a5 a6 a7 a8 a9 hl6 hc6 hb6 hbn HF2
  generalize w16.heap.size = b16 at *
  have HC16 := hid_of (bt HC15.out HB16.out)
  have HD16 := hid_of (bt HB14.out (bt HB15.out HB16.out))
  have HV1' := hid_of (HV1.out.below (bt HB15.out HB16.out))
  have HV2' := hid_of (HV2.out.below HB16.out)
  have HR1 : Hid (∀ g, (Value.slice l4a V.d.labels.length l4c).ownBlock = some g ∨ (Value.slice c4a V.cs.length c4c).ownBlock = some g → g < P14.heap.size) := fun g h => HV1.out.lt h
  have HR2 : Hid (∀ g, (Value.slice l5a V.d.labels.length l5c).ownBlock = some g ∨ (Value.slice c5a V.cs.length c5c).ownBlock = some g → P14.heap.size ≤ g ∧ g < P16.heap.size) := fun g h => ⟨HV2.out.ge h, Nat.lt_of_lt_of_le (HV2.out.lt h) HB16.out.size⟩
  have Hpp : Hid (P14.heap.size ≤ P16.heap.size) := (bt HB15.out HB16.out).size
  clear HV1 HV2 HB15 HB16 HC14 HC15
  obtain ⟨v0, v1, v2, v3, v4, v5, v6, v7, v8, v9, v10⟩ := HV1'.out.x.cB
  go_upto_region 17 with fail
  have hk17 := two_new0 P16 (.cells (vc V (.slice l4a V.d.labels.length l4c) (.slice c4a V.cs.length c4c)) 45) (.cells #[.int .i64 0, .slice (some ⟨P16.heap.size, 0, none⟩) 1 1, .int .u64 0] 26)
  have hb17 := bel2 P16 (.cells (vc V (.slice l4a V.d.labels.length l4c) (.slice c4a V.cs.length c4c)) 45) (.cells #[.int .i64 0, .slice (some ⟨P16.heap.size, 0, none⟩) 1 1, .int .u64 0] 26)
  obtain ⟨P17, hP17⟩ : ∃ x, (P16.alloc (.cells (vc V (.slice l4a V.d.labels.length l4c) (.slice c4a V.cs.length c4c)) 45)).alloc (.cells #[.int .i64 0, .slice (some ⟨P16.heap.size, 0, none⟩) 1 1, .int .u64 0] 26) = x := ⟨_, rfl⟩
  rw [hP17] at hk17 hb17
  have HB17 := hid_of hb17
  have HO1 : Hid (OR P13.heap.size (.slice (some ⟨P16.heap.size, 0, none⟩) 1 1) [(V, .slice l4a V.d.labels.length l4c, .slice c4a V.cs.length c4c)] P17) := OR.one (r := (V, .slice l4a V.d.labels.length l4c, .slice c4a V.cs.length c4c)) hk17.1 HD16.out.size (own_belG HV1'.out.l hb17) (own_belG HV1'.out.c hb17)
  have HA17 := hid_of hk17.2
  simp only [vc] at hP17
  rw [hP17]
  clear v0 v1 v2 v3 v4 v5 v6 v7 v8 v9 v10 hP17 hk17 hb17
  have HV27 := hid_of (HV2'.out.below HB17.out)
  obtain ⟨v0, v1, v2, v3, v4, v5, v6, v7, v8, v9, v10⟩ := HV27.out.x.cB
  go_upto_region 18 with fail
  have hk18 := two_new0 P17 (.cells (vc V (.slice l5a V.d.labels.length l5c) (.slice c5a V.cs.length c5c)) 45) (.cells #[.int .i64 0, .slice (some ⟨P17.heap.size, 0, none⟩) 1 1, .int .u64 0] 26)
  have hb18 := bel2 P17 (.cells (vc V (.slice l5a V.d.labels.length l5c) (.slice c5a V.cs.length c5c)) 45) (.cells #[.int .i64 0, .slice (some ⟨P17.heap.size, 0, none⟩) 1 1, .int .u64 0] 26)
  obtain ⟨P18, hP18⟩ : ∃ x, (P17.alloc (.cells (vc V (.slice l5a V.d.labels.length l5c) (.slice c5a V.cs.length c5c)) 45)).alloc (.cells #[.int .i64 0, .slice (some ⟨P17.heap.size, 0, none⟩) 1 1, .int .u64 0] 26) = x := ⟨_, rfl⟩
  rw [hP18] at hk18 hb18
  have HB18 := hid_of hb18
  have Hle : Hid (P14.heap.size ≤ P17.heap.size ∧ P16.heap.size + 1 < P17.heap.size ∧ P13.heap.size ≤ P14.heap.size ∧ P14.heap.size ≤ P16.heap.size) := by
    have e1 := (Array.getElem?_eq_some_iff.1 HA17.out).1
    have e2 := HB14.out.size
    have e3 := HD16.out.size
    have e4 := HV1'.out
    unfold Hid
    refine ⟨?_, e1, e2, ?_⟩
    · have := Hpp.out; omega
    · exact Hpp.out
  have HO2 : Hid (OR P14.heap.size (.slice (some ⟨P17.heap.size, 0, none⟩) 1 1) [(V, .slice l5a V.d.labels.length l5c, .slice c5a V.cs.length c5c)] P18) := OR.one (r := (V, .slice l5a V.d.labels.length l5c, .slice c5a V.cs.length c5c)) hk18.1 Hle.out.1 (own_belG HV27.out.l hb18) (own_belG HV27.out.c hb18)
  have HA18 := hid_of hk18.2
  simp only [vc] at hP18
  rw [hP18]
  clear v0 v1 v2 v3 v4 v5 v6 v7 v8 v9 v10 hP18 hk18 hb18 HV27
  have Hdj : Hid (∀ g, Bk (.slice (some ⟨P16.heap.size, 0, none⟩) 1 1) [(V, .slice l4a V.d.labels.length l4c, .slice c4a V.cs.length c4c)] g → ¬ Bk (.slice (some ⟨P17.heap.size, 0, none⟩) 1 1) [(V, .slice l5a V.d.labels.length l5c, .slice c5a V.cs.length c5c)] g) := fun g h1 h2 => by
    obtain ⟨q1, q2, q3, q4⟩ := Hle.out
    rcases bk_one h1 with k1 | k1
    · have e1 : P16.heap.size = g := Option.some.inj k1
      rcases bk_one h2 with k2 | k2
      · have e2 : P17.heap.size = g := Option.some.inj k2
        omega
      · have := HR2.out g k2
        omega
    · have e1 := HR1.out g k1
      rcases bk_one h2 with k2 | k2
      · have e2 : P17.heap.size = g := Option.some.inj k2
        omega
      · have := HR2.out g k2
        omega
  have HO18 := hid_of (HO1.out.below HB18.out)
  have HA178 := hid_of (hkN HA17.out HB18.out)
  have HBB := hid_of (bt HB17.out HB18.out)
  have HV18 := hid_of (HV1'.out.below HBB.out)
  have HV28 := hid_of (HV2'.out.below HBB.out)
  have HV38 := hid_of (HV3.out.below HBB.out)
  have HD18 := hid_of (bt HD16.out HBB.out)
  clear HV1' HV2' HV3 HD16 HBB HB17 HB18 HO1 HA17 HC16 HB14
  have HSv : Hid (∀ W l1 c1 l2 c2, SLb W l1 V.d.labels → SN W c1 V.cs → SLb W l2 V.d.labels → SN W c2 V.cs → Calls Tryz.prog 20 #[vx V l1 c1, vx V l2 c2] W fun e w' => e = .returned (.bool true) ∧ Below W.heap.size W w') := fun W l1 c1 l2 c2 h1 h2 h3 h4 => by
    have := rsamev_any V V _ _ HVw.out HVw.out W ⟨_, _, rfl, h1, h2⟩ ⟨_, _, rfl, h3, h4⟩
    rw [smV_refl] at this
    exact this
  have hevv : (ev != ev) = false := by simp
  obtain ⟨v0, v1, v2, v3, v4, v5, v6, v7, v8, v9, v10⟩ := HV18.out.x.cB
  obtain ⟨u0, u1, u2, u3, u4, u5, u6, u7, u8, u9, u10⟩ := HV38.out.x.cB
  have Hs13 : Hid (P13.heap.size ≤ P18.heap.size) := HD18.out.size
  have Hs14 : Hid (P14.heap.size ≤ P18.heap.size) := by have := Hle.out; have := (Array.getElem?_eq_some_iff.1 HA178.out).1; unfold Hid; omega
  go_upto_region 20 with (first
    | (go_at_call 20; (with_reducible refine (HSv.out _ _ _ _ _ (OwnL.slb HV18.out.l) (OwnC.sn HV18.out.c Hs13.out) HV38.out.l HV38.out.c).mono ?_); rintro e z1 ⟨rfl, hz1⟩; have HZ1 := hid_of hz1; obtain ⟨s0, s1, s2, s3, s4', s5', s6', s7', s8', s9', s10'⟩ := (HV28.out.below hz1).x.cB; obtain ⟨t0, t1, t2, t3, t4', t5', t6', t7', t8', t9', t10'⟩ := (HV38.out.below hz1).x.cB)
    | (go_at_call 20; (with_reducible refine (HSv.out _ _ _ _ _ (OwnL.slb (HV28.out.below HZ1.out).l) (OwnC.sn (HV28.out.below HZ1.out).c (Nat.le_trans Hs14.out HZ1.out.size)) (HV38.out.below HZ1.out).l (HV38.out.below HZ1.out).c).mono ?_); rintro e z2 ⟨rfl, hz2⟩))
  have HZ2 := hid_of (bt HZ1.out hz2)
  clear v0 v1 v2 v3 v4 v5 v6 v7 v8 v9 v10 u0 u1 u2 u3 u4 u5 u6 u7 u8 u9 u10 s0 s1 s2 s3 s4' s5' s6' s7' s8' s9' s10' t0 t1 t2 t3 t4' t5' t6' t7' t8' t9' t10' hz1 hz2 HZ1 HV18 HV28 HV38 HSv hevv
  have HO1 := hid_of (HO18.out.below HZ2.out)
  have HO2z := hid_of (HO2.out.below HZ2.out)
  have HA17 := hid_of (hkN HA178.out HZ2.out)
  have HA18z := hid_of (hkN HA18.out HZ2.out)
  have HDz := hid_of (bt HD18.out HZ2.out)
  clear HO18 HO2 HA178 HA18 HD18 HZ2
  obtain ⟨p0, p1, p2, _, _, _⟩ := three_cells HA17.out
  have HSp2 : Hid (∀ _ : Unit, Calls Tryz.prog 25 #[.agg #[.int .i64 0, .slice (some ⟨P16.heap.size, 0, none⟩) 1 1, .int .u64 0], .int .i64 2] z2 fun e w' => SpQ z2 (.slice (some ⟨P16.heap.size, 0, none⟩) 1 1) P13.heap.size [(V, .slice l4a V.d.labels.length l4c, .slice c4a V.cs.length c4c)] 2 e w') := fun _ => spoil_any 0 0 _ P13.heap.size _ 2 (Or.inr (Or.inl rfl)) z2 HO1.out HDz.out.size (Dj.one _) (by simp) (fun q hq => by rw [List.mem_singleton] at hq; subst hq; exact HVl.out)
  go_upto_region 21 with (go_at_call 25; (with_reducible refine (HSp2.out ()).mono ?_); rintro e w20 ⟨rfl, hc20, hq20⟩)
  have HD20 : Hid (Below P13.heap.size P13 w20) := HDz.out.trans (hc20.below HDz.out.size (fun x hx => (HO1.out.bk x hx).1))
  have HO20 : Hid (OR P14.heap.size (.slice (some ⟨P17.heap.size, 0, none⟩) 1 1) [(V, .slice l5a V.d.labels.length l5c, .slice c5a V.cs.length c5c)] w20) := HO2z.out.chg hc20 (fun g h1 h2 => Hdj.out g h2 h1)
  have HA170 := hid_of (hc20.at_ HA17.out (HO1.out.apart HA17.out))
  have HA180 := hid_of (hc20.at_ HA18z.out (HO1.out.apart HA18z.out))
  have HQ20 := hid_of hq20
  clear p0 p1 p2 HSp2 hc20 hq20 HO1 HO2z HA17 HA18z HDz
  obtain ⟨p0, p1, p2, _, _, _⟩ := three_cells HA180.out
  have Hs20 : Hid (P14.heap.size ≤ w20.heap.size) := by have := Hle.out; have := (Array.getElem?_eq_some_iff.1 HA180.out).1; unfold Hid; omega
  have HSp3 : Hid (∀ _ : Unit, Calls Tryz.prog 25 #[.agg #[.int .i64 0, .slice (some ⟨P17.heap.size, 0, none⟩) 1 1, .int .u64 0], .int .i64 3] w20 fun e w' => SpQ w20 (.slice (some ⟨P17.heap.size, 0, none⟩) 1 1) P14.heap.size [(V, .slice l5a V.d.labels.length l5c, .slice c5a V.cs.length c5c)] 3 e w') := fun _ => spoil_any 0 0 _ P14.heap.size _ 3 (Or.inr (Or.inr rfl)) w20 HO20.out Hs20.out (Dj.one _) (by simp) (fun q hq => by rw [List.mem_singleton] at hq; subst hq; exact HVl.out)
  go_upto_region 22 with (go_at_call 25; (with_reducible refine (HSp3.out ()).mono ?_); rintro e w21 ⟨rfl, hc21, hq21⟩)
  have HD21 : Hid (Below P13.heap.size P13 w21) := HD20.out.trans (hc21.below HD20.out.size (fun x hx => Nat.le_trans Hle.out.2.2.1 (HO20.out.bk x hx).1))
  have HQ21 := hid_of (HQ20.out.chg hc21 (fun g h1 h2 => Hdj.out g h1 h2))
  have HQ22 := hid_of hq21
  have HA171 := hid_of (hc21.at_ HA170.out (HO20.out.apart HA170.out))
  have HA181 := hid_of (hc21.at_ HA180.out (HO20.out.apart HA180.out))
  clear p0 p1 p2 HSp3 hc21 hq21 HO20 HA170 HA180 HD20 HQ20 Hs20
  have HS1 : Hid (Calls Tryz.prog 26 #[.agg #[.int .i64 0, .slice (some ⟨P16.heap.size, 0, none⟩) 1 1, .int .u64 0], .int .i64 2] w21 fun e w' => e = .returned (.bool true) ∧ Below w21.heap.size w21 w') := spoilt_any 0 0 _ P13.heap.size _ 2 (Or.inr (Or.inl rfl)) w21 HQ21.out
  have HS2 : Hid (∀ W, Below w21.heap.size w21 W → Calls Tryz.prog 26 #[.agg #[.int .i64 0, .slice (some ⟨P17.heap.size, 0, none⟩) 1 1, .int .u64 0], .int .i64 3] W fun e w' => e = .returned (.bool true) ∧ Below W.heap.size W w') := fun W h => spoilt_any 0 0 _ P14.heap.size _ 3 (Or.inr (Or.inr rfl)) W (HQ22.out.below h)
  obtain ⟨p0, p1, p2, _, _, _⟩ := three_cells HA171.out
  go_upto_region 24 with (first
    | (go_at_call 26; (with_reducible refine HS1.out.mono ?_); rintro e x1 ⟨rfl, hx1⟩; have HX1 := hid_of hx1; obtain ⟨r0, r1, r2, _, _, _⟩ := three_cells (hkN HA181.out hx1))
    | (go_at_call 26; (with_reducible refine (HS2.out _ HX1.out).mono ?_); rintro e x2 ⟨rfl, hx2⟩; have HX2 : Hid (Below P6.heap.size P6 x2) := bt HB13.out (bt HD21.out (bt HX1.out hx2)); have HY2 := hid_of (bt HD21.out (bt HX1.out hx2)); obtain ⟨k0, k1, k2, _, _, _⟩ := three_cells (H46.out.below HX2.out).a5; obtain ⟨l0, l1, l2, _, _, _⟩ := three_cells (hkN HK.out.a1 (bt H46.out.bl HX2.out)))
    | (go_at_call 14; (with_reducible refine (HSA.out _ _ _ (H46.out.below HX2.out).svJ (SA.out.below (bt H46.out.bl HX2.out))).mono ?_); rintro e P24 ⟨rfl, hx3⟩))
  have HB24 : Hid (Below P6.heap.size P6 P24) := bt HX2.out hx3
  have HK24 := hid_of (HK13.out.below (bt HY2.out hx3))
  clear p0 p1 p2 r0 r1 r2 k0 k1 k2 l0 l1 l2 hx1 hx2 hx3 HX1 HX2 HY2 HS1 HS2 HA171 HA181 HQ21 HQ22 HD21 HK13 HB13 Hdj Hle HR1 HR2 Hs13 Hs14 Hpp HVl HVw
  have H424 := hid_of (H46.out.below HB24.out)
  have Hn5 : Hid (¬ Bk (.slice oo J.length co) J b5) := H424.out.oj.apart H424.out.a5
  have HdJ := hid_of H424.out.dj
  have HlA : Hid (A.vs.length = J.length) := by unfold Hid; rw [← H424.out.mj, List.length_map]
  have HCl : Hid (J.length ≤ 1048576) := by have := HlA.out; unfold Hid; omega
  have HO0 : Hid (OR s4 (.slice oo J.length co) J P24) := H424.out.oj
  have HM0 : Hid (J.map (·.1) = (A.vs.take 0).map chX ++ A.vs.drop 0) := H424.out.mj
  have HCx : Hid (∀ (J1 : List Rv) i, J1.map (·.1) = (A.vs.take i).map chX ++ A.vs.drop i → ∀ (h : i < J1.length), i < A.vs.length → J1[i].1.cs.length ≤ 1048576 ∧ J1[i].1.d.help.length ≤ 140737488351232 ∧ ∀ c ∈ J1[i].1.cs, c.2 < 18446744073709551616) := fun J1 i h hi hA => by
    have h1 : (J1.map (·.1))[i]? = some J1[i].1 := by simp [hi]
    rw [h, List.getElem?_append_right (by simp; omega)] at h1
    simp only [List.length_map, List.length_take] at h1
    rw [show i - min i A.vs.length = 0 by omega, List.getElem?_drop, Nat.add_zero, List.getElem?_eq_getElem hA] at h1
    have e := (Option.some.inj h1).symm
    rw [e]
    exact ⟨(fA _ (List.getElem_mem hA)).2, hhA _ (List.getElem_mem hA), fun c hc => ((wA.vs _ (List.getElem_mem hA)).cs c hc).2.2⟩
  go_upto_region 25 with fail
  go_loopw [19] (fun x W => ∃ (i : Nat) (J1 : List Rv), i ≤ J.length ∧ x = .int .i64 (i : Int) ∧ Hid (OR s4 (.slice oo J.length co) J1 W) ∧ Hid (Chg (Bk (.slice oo J.length co) J) P24 W) ∧ Hid (J1.map (·.1) = (A.vs.take i).map chX ++ A.vs.drop i) ∧ Hid (J1.map (·.2) = J.map (·.2))) (fun x _ => J.length - (intOf x).toNat)
  case atStart => exact ⟨0, J, by omega, rfl, HO0, Chg.refl _ _, HM0, rfl⟩
  case round =>
    clear HO0 HM0
    as_aux_lemma =>
      obtain ⟨i, J1, hi, rfl, HO, HCg, HM1, HM2⟩ := hrel
      have hJl : J1.length = J.length := by have := congrArg List.length HM2.out; simpa using this
      obtain ⟨c0, c1, c2, _, _, _⟩ := three_cells (HCg.out.at_ H424.out.a5 Hn5.out)
      by_cases hlt : i < J.length
      · have hlt' : (i : Int) < (J.length : Int) := by omega
        obtain rfl := hpo (by omega)
        have hi1 : i < J1.length := by omega
        have hix := index_val go' 0 J.length co i (i : Int) rfl hlt
        rw [Nat.zero_add] at hix
        have hrow := HO.out.own
        rw [hJl] at hrow
        have r2 := (own_row hrow hJl.symm i hi1).c2
        rw [Nat.zero_add] at r2
        have f2 : wr.frozen? ⟨go', i * 11 + 2, none⟩ = false := hrow.frozenAt (i * 11 + 2)
        obtain ⟨xl, xh, xb⟩ := HCx.out J1 i HM1.out hi1 (by have := HlA.out; omega)
        have HXb := hid_of xb
        have HO2 : Hid (OR s4 (.slice (some ⟨go', 0, none⟩) J.length co) (J1.set i (hpR J1[i])) (wr.setCell ⟨go', i * 11 + 2, none⟩ (.string ⟨(J1[i].1.d.help ++ [120]).toArray⟩))) := HO.out.cell2 hJl hi1 (by omega) rfl rfl rfl rfl
        have HC2 : Hid (Chg (Bk (.slice (some ⟨go', 0, none⟩) J.length co) J) P24 (wr.setCell ⟨go', i * 11 + 2, none⟩ (.string ⟨(J1[i].1.d.help ++ [120]).toArray⟩))) := HCg.out.trans (chg_set (S := Bk (.slice (some ⟨go', 0, none⟩) J.length co) J) (Or.inl rfl)) (fun x hx => Or.inl hx)
        have hhl : ¬ 9223372036854775807 < J1[i].1.d.help.length + 1 := by omega
        clear hrow xb xh
        go_upto_region 28 with fail
        rw [str_x]
        obtain ⟨w2, hw2⟩ : ∃ x, wr.setCell ⟨go', i * 11 + 2, none⟩ (.string ⟨(J1[i].1.d.help ++ [120]).toArray⟩) = x := ⟨_, rfl⟩
        rw [hw2] at HO2 HC2 ⊢
        clear hw2 hhl r2 f2 hix c0 c1 c2 HO HCg
        obtain ⟨J2, hJ2⟩ : ∃ x, J1.set i (hpR J1[i]) = x := ⟨_, rfl⟩
        have hj2 : i < J2.length := by rw [← hJ2, List.length_set]; exact hi1
        have HJ2l : Hid (J2.length = J.length) := by unfold Hid; rw [← hJ2, List.length_set]; exact hJl
        have HM22 : Hid (J2.map (·.2) = J.map (·.2)) := by unfold Hid; rw [← hJ2, m2_set hi1 (hpR J1[i]) rfl]; exact HM2.out
        have HgJ2 : Hid (J2[i] = hpR J1[i]) := by unfold Hid; subst hJ2; exact List.getElem_set_self _
        rw [hJ2] at HO2
        have HJ12 := hid_of hJ2
        clear hJ2
        have HO3 : Hid (OR s4 (.slice (some ⟨go', 0, none⟩) J.length co) (J2.set i (hcR 0 J2[i])) w2) := by
          unfold Hid
          rw [hc_zero, List.set_getElem_self]
          exact HO2.out
        have hcs : J2[i].1.cs = J1[i].1.cs := by rw [HgJ2.out]; rfl
        obtain ⟨ca, gc, cc, hcv, hpc, -⟩ := own_slice (HO2.out.el J2[i] (List.getElem_mem hj2)).2
        have Hcv := hid_of hcv
        have Hcs := hid_of hcs
        clear hcv hcs HO2
        have HBkc : Hid (∀ g, J2[i].2.2.ownBlock = some g → Bk (.slice (some ⟨go', 0, none⟩) J.length co) J g) := fun g e => bk_cong HM22.out (Or.inr ⟨_, List.getElem_mem hj2, Or.inr e⟩)
        go_upto_region 29 with fail
        go_loopw [20] (fun x W => ∃ k : Nat, k ≤ J2[i].1.cs.length ∧ x = .int .i64 (k : Int) ∧ Hid (OR s4 (.slice (some ⟨go', 0, none⟩) J.length co) (J2.set i (hcR k J2[i])) W) ∧ Hid (Chg (Bk (.slice (some ⟨go', 0, none⟩) J.length co) J) P24 W)) (fun x _ => J2[i].1.cs.length - (intOf x).toNat)
        case atStart => exact ⟨0, by omega, rfl, HO3, HC2⟩
        case round =>
          clear HO3 HC2
          as_aux_lemma =>
            obtain ⟨k, hk, rfl, HO, HCg⟩ := hrel
            obtain ⟨c0, c1, c2, _, _, _⟩ := three_cells (HCg.out.at_ H424.out.a5 Hn5.out)
            have hix := index_val go' 0 J.length co i (i : Int) rfl hlt
            rw [Nat.zero_add] at hix
            have hJ3l : (J2.set i (hcR k J2[i])).length = J.length := by rw [List.length_set]; exact HJ2l.out
            have hi3 : i < (J2.set i (hcR k J2[i])).length := by omega
            have hrow := HO.out.own
            rw [hJ3l] at hrow
            have g3 : (J2.set i (hcR k J2[i]))[i] = hcR k J2[i] := List.getElem_set_self _
            have r6' := (own_row hrow hJ3l.symm i hi3).c6
            rw [Nat.zero_add, g3] at r6'
            have r6 : wr.cell? ⟨go', i * 11 + 6, none⟩ = some (.slice ca J2[i].1.cs.length cc) := r6'.trans (congrArg some Hcv.out)
            clear hrow r6'
            have hkl : J2[i].1.cs.length ≤ 1048576 := by rw [Hcs.out]; exact xl
            by_cases hkt : k < J2[i].1.cs.length
            · have hkt' : (k : Int) < (J2[i].1.cs.length : Int) := by omega
              obtain rfl := hpc (by omega)
              have hiy := index_cnt gc 0 J2[i].1.cs.length cc k (k : Int) rfl hkt
              rw [Nat.zero_add] at hiy
              have hol := (HO.out.el _ (List.getElem_mem hi3)).2
              rw [g3] at hol
              have hol' : OwnC s4 (.slice (some ⟨gc, 0, none⟩) J2[i].1.cs.length cc) (hcR k J2[i]).1.cs wr := by
                have h2 : (hcR k J2[i]).2.2 = .slice (some ⟨gc, 0, none⟩) J2[i].1.cs.length cc := Hcv.out
                rw [h2] at hol
                exact hol
              have hln := hc_len J2[i] k (by omega)
              have hkc : k < (hcR k J2[i]).1.cs.length := by omega
              have hcl := fl_getR (hcR k J2[i]).1.cs k hkc
              obtain ⟨N, hN⟩ : ∃ N, (hcR k J2[i]).1.cs[k].2 = N := ⟨_, rfl⟩
              have e1 : wr.cell? ⟨gc, k * 2 + 1, none⟩ = some (.int .u64 (N : Int)) := by
                have := hol'
                unfold OwnC at this
                rw [hln] at this
                rw [← hN]
                exact (this.cellAt (k * 2 + 1) (by omega)).trans hcl.2
              have f1 : wr.frozen? ⟨gc, k * 2 + 1, none⟩ = false := by
                have := hol'
                unfold OwnC at this
                rw [hln] at this
                exact this.frozenAt (k * 2 + 1)
              have hw1 : IntKind.u64.wrap ((N : Int) + 1) = (((N + 1) % 18446744073709551616 : Nat) : Int) := by rw [IntKind.wrap_u64]; omega
              have HP := hid_of (OwnC.put1 hol' hln hkc ((N + 1) % 18446744073709551616))
              have HNn := hid_of hN
              clear hol hol' hln hcl hN
              go_wp2_with fail
              refine ⟨⟨k + 1, by omega, by go_num, ?_, ?_⟩, by simp [intOf]; omega⟩
              · refine OR.inc hj2 HO.out (dj_cong HdJ.out ?_) hkt (by rw [Hcv.out]; exact HP.out.2) hkc (by rw [Hcv.out, HNn.out]; exact HP.out.1)
                rw [m2_set hj2 (hcR k J2[i]) rfl]
                exact HM22.out
              · exact HCg.out.trans (chg_set (S := Bk (.slice (some ⟨go', 0, none⟩) J.length co) J) (HBkc.out gc (by rw [Hcv.out]; rfl))) (fun x hx => Or.inl hx)
            · have hkt' : ¬ (k : Int) < (J2[i].1.cs.length : Int) := by omega
              have hJ20 := HCl.out
              go_wp2_with fail
              refine ⟨⟨i + 1, J2.set i (hcR k J2[i]), by omega, by go_num, HO, HCg, ?_, ?_⟩, by simp [intOf]; omega⟩
              · have e1 : J2.set i (hcR k J2[i]) = J1.set i (chR J1[i]) := by
                  rw [HgJ2.out, hc_end J1[i] k (by have := Hcs.out; rw [this] at hkt; omega), ← HJ12.out, List.set_set]
                unfold Hid
                rw [e1]
                exact md_step HM1.out (by have := HlA.out; omega) hi1
              · unfold Hid
                rw [m2_set hj2 (hcR k J2[i]) rfl]
                exact HM22.out
      · have hlt' : ¬ (i : Int) < (J.length : Int) := by omega
        have hC := HCg.out
        have hs : P24.heap.size ≤ wr.heap.size := hC.size
        have HSo : Hid (SV wr (.slice oo J.length co) (chS' A).vs) := by
          have := HO.out.sv (Nat.le_trans H424.out.ht (Nat.le_trans H424.out.hw hs))
          rw [HM1.out, List.take_of_length_le (by have := HlA.out; omega), List.drop_eq_nil_of_le (by have := HlA.out; omega), List.append_nil] at this
          exact this
        have HSk : Hid (SV wr (.slice ko K.length ck) B.vs) := by
          have := (H424.out.ok.chg hC (fun g h1 h2 => by
            have q1 := (H424.out.ok.bk g h1).1
            have q2 := H424.out.rj g h2
            omega)).sv (Nat.le_trans H424.out.hw hs)
          rw [H424.out.mk'] at this
          exact this
        have HW : Hid (Wn wb s5 P6.heap.size (.slice xo Rw.length xc) Rw wr) := (HW6.out.below HB24.out).chg hC (fun g hg => ⟨Nat.le_trans H424.out.hs (H424.out.oj.bk g hg).1, Or.inl (Nat.lt_of_lt_of_le (H424.out.rj g hg) Ht5.out)⟩)
        have Hlt : Hid (∀ g, Bk (.slice oo J.length co) J g → g < P6.heap.size) := fun g hg => by
          have q1 := H424.out.rj g hg
          have q2 := Ht5.out
          have q3 := Hs5.out
          omega
        have HKe : Hid (K10 P6.heap.size s7 M b9 b11 (.slice mo Jm.length mc) (.slice no Jn.length nc) Jm Jn wr) := ⟨hC.at_ HK24.out.a9 (H424.out.oj.apart HK24.out.a9), hC.at_ HK24.out.a11 (H424.out.oj.apart HK24.out.a11), HK24.out.sm.chg hC (fun g h1 h2 => by
            have q1 := (HK24.out.rm g h1).1
            have q2 := Hlt.out g h2
            omega), HK24.out.on.chg hC (fun g h1 h2 => by
            have q1 := (HK24.out.on.bk g h1).1
            have q2 := Hlt.out g h2
            have q3 := HK24.out.h6
            omega), HK24.out.mn, HK24.out.rm, HK24.out.h6, Nat.le_trans HK24.out.h7 hs⟩
        have HA5 := hid_of (hC.at_ H424.out.a5 Hn5.out)
        have HA6 := hid_of (hC.at_ H424.out.a6 (H424.out.oj.apart H424.out.a6))
        have HA7e := hid_of (hC.at_ (hkN HA7.out HB24.out) (H424.out.oj.apart (hkN HA7.out HB24.out)))
        have wC := ch_w wA hhA
        have HM2' : Hid (Calls Tryz.prog 12 #[.agg #[.int .i64 A.p, .slice oo J.length co, .int .u64 (A.r : Int)], .agg #[.int .i64 B.p, .slice ko K.length ck, .int .u64 (B.r : Int)]] wr fun e w' => MgQ wr (chS' A) B e w') := merge_any (chS' A) B _ _ wC wB wr ⟨_, rfl, HSo.out⟩ ⟨_, rfl, HSk.out⟩
        have HR2' : Hid (∀ W, Below wr.heap.size wr W → Calls Tryz.prog 13 #[.agg #[.int .i64 A.p, .slice oo J.length co, .int .u64 (A.r : Int)], .agg #[.int .i64 B.p, .slice ko K.length ck, .int .u64 (B.r : Int)]] W fun e w' => RmQ W (chS' A) B e w') := fun W h => rmerge_sv (chS' A) B _ _ wC wB W ⟨_, rfl, HSo.out.below h⟩ ⟨_, rfl, HSk.out.below h⟩
        have HS2' : Hid (∀ W x y, SV W x (mgS (chS' A) B).1.vs → SV W y (mgS (chS' A) B).1.vs → Calls Tryz.prog 14 #[.agg #[.int .i64 (mgS (chS' A) B).1.p, x, .int .u64 ((mgS (chS' A) B).1.r : Int)], .agg #[.int .i64 (mgS (chS' A) B).1.p, y, .int .u64 ((mgS (chS' A) B).1.r : Int)]] W fun e w' => e = .returned (.bool true) ∧ Below W.heap.size W w') := fun W x y h1 h2 => by
          have := rsames_any (mgS (chS' A) B).1 (mgS (chS' A) B).1 _ _ (mg_w wC wB) (mg_w wC wB) W ⟨x, rfl, h1⟩ ⟨y, rfl, h2⟩
          rw [smS_refl] at this
          exact this
        have HSn : Hid (∀ W, Below wr.heap.size wr W → SV W (.slice xo Rw.length xc) M.vs) := fun W h => by
          have := (HW.out.below h).sv (Nat.le_trans Hs5.out (Nat.le_trans HB24.out.size (Nat.le_trans hs h.size)))
          rw [HRw.out] at this
          exact this
        have HBw : Hid (Below w.heap.size w wr) := bt HK.out.ak.bl HW.out.bl
        unfold MgQ at HM2'
        unfold RmQ at HR2'
        generalize mgS (chS' A) B = MM2 at *
        obtain ⟨M2, e2⟩ := MM2
        simp only at HM2' HR2' HS2'
        have hee : (e2 == e2) = true := by simp
        clear hC hs HO HCg HM1 HM2 HW Hlt HK24 H424 HB24 HSk HSo Hn5 HdJ HlA HCl HCx wC wA wB hhA HSA HSB HW6 HA7 H46 HK SA SB SL HSw HAk HMb Hs5 Ht5 HRw c0 c1 c2 sF
        obtain ⟨p0, p1, p2, _, _, _⟩ := three_cells HA5.out
        obtain ⟨q0, q1, q2, _, _, _⟩ := three_cells HA6.out
        go_upto_region 33 with (go_at_call 12; (with_reducible refine HM2'.out.mono ?_); rintro e w32 ⟨u2, J3, rfl, hb32, hJ32, hm32⟩; obtain ⟨o2, g2, n2, rfl, -⟩ := own_slice hJ32.g.own)
        have hbn := bel1 w32 (.cells #[.int .i64 M2.p, .slice o2 J3.length n2, .int .u64 (M2.r : Int)] 26)
        have HV32 : Hid (SV (w32.alloc (.cells #[.int .i64 M2.p, .slice o2 J3.length n2, .int .u64 (M2.r : Int)] 26)) (.slice o2 J3.length n2) M2.vs) := by
          have := hJ32.svA.below hbn
          rw [hm32] at this
          exact this
        have HA21 := hid_of (new_1 w32 (.cells #[.int .i64 M2.p, .slice o2 J3.length n2, .int .u64 (M2.r : Int)] 26))
        have HB32 := hid_of (bt hb32 hbn)
        generalize w32.alloc (.cells #[.int .i64 M2.p, .slice o2 J3.length n2, .int .u64 (M2.r : Int)] 26) = P32 at HV32 HA21 HB32 ⊢
        generalize w32.heap.size = b21 at HA21 ⊢
        clear p0 p1 p2 q0 q1 q2 hb32 hJ32 hm32 hbn HM2'
        obtain ⟨p0, p1, p2, _, _, _⟩ := three_cells (hkN HA5.out HB32.out)
        obtain ⟨q0, q1, q2, _, _, _⟩ := three_cells (hkN HA6.out HB32.out)
        go_upto_region 34 with (go_at_call 13; (with_reducible refine (HR2'.out _ HB32.out).mono ?_); rintro e w33 ⟨u3, rfl, hv33, hb33⟩; obtain ⟨o3, s3, t3, n3, rfl, -⟩ := hv33.open)
        have hbn := bel1 w33 (.cells #[.int .i64 M2.p, .slice o3 M2.vs.length n3, .int .u64 (M2.r : Int)] 26)
        have HV33 := hid_of (hv33.below hbn)
        have HA22 := hid_of (new_1 w33 (.cells #[.int .i64 M2.p, .slice o3 M2.vs.length n3, .int .u64 (M2.r : Int)] 26))
        have HV32' := hid_of (HV32.out.below (bt hb33 hbn))
        have HA21' := hid_of (hkN HA21.out (bt hb33 hbn))
        have HB33 := hid_of (bt HB32.out (bt hb33 hbn))
        generalize w33.alloc (.cells #[.int .i64 M2.p, .slice o3 M2.vs.length n3, .int .u64 (M2.r : Int)] 26) = P33 at HV33 HA22 HV32' HA21' HB33 ⊢
        generalize w33.heap.size = b22 at HA22 ⊢
        clear p0 p1 p2 q0 q1 q2 hv33 hb33 hbn HR2' HV32 HA21 HB32
        obtain ⟨p0, p1, p2, _, _, _⟩ := three_cells HA21'.out
        obtain ⟨q0, q1, q2, _, _, _⟩ := three_cells HA22.out
        go_wp2_with (first
          | (go_at_call 14; (with_reducible refine (HS2'.out _ _ _ HV32'.out HV33.out).mono ?_); rintro e x1 ⟨rfl, hx1⟩; have HX1 := hid_of (bt HB33.out hx1); obtain ⟨r0, r1, r2, _, _, _⟩ := three_cells (HKe.out.below HX1.out).a11; obtain ⟨t0, t1, t2, _, _, _⟩ := three_cells (hkN HA7e.out HX1.out))
          | (go_at_call 14; (with_reducible refine (HSM.out _ _ _ (HKe.out.below HX1.out).svN (HSn.out _ HX1.out)).mono ?_); rintro e x2 ⟨rfl, hx2⟩; have HX2 := hid_of (bt HX1.out hx2); obtain ⟨k0, k1, k2, _, _, _⟩ := three_cells (HKe.out.below HX2.out).a9)
          | (go_at_call 26; (with_reducible refine (HSt.out _ (HKe.out.below HX2.out)).mono ?_); rintro e x3 ⟨rfl, hx3⟩)
          | (go_at_call 9; (with_reducible refine (HX.out _).mono ?_); rintro e x4 ⟨rfl, hx4⟩))
        go_ret
        exact ⟨rfl, bt HBw.out (bt HX2.out (bt hx3 hx4))⟩
end Go.Proofs.YtckdkcnnfjbdmaaGreat
/- SnapKeeps: the row. Own work of the verifier. -/
namespace Go.Proofs.YtckdkcnnfjbdmaaGreat
open Go.ChangeShapes Go.WideShapes Go.ChangeAt Go.RowKit Go.Joins Me

set_option maxRecDepth 100000 in
theorem snapKeeps_lifted (os : Os) (started : os.Started) (H : Type) (enc : TypeId × Value → H) :
    ReturnsInHanded {} Tryz.checked os 8 .any (Rows.snapKeepsSpec.pre6 enc Tryz.prog Tryz.f8 Rows.snapKeepsRow.domain false) (Rows.snapKeepsSpec.post enc Tryz.prog Tryz.f8 false true false false) := by
  refine returnsInHanded_of_change_sized (C := Tryz.checked) own started (by kernel_rfl) Tryz.func8
    (ChangeSpec.witness6 (enc := enc) (C := Tryz.checked) false ⟨#[], #[.agg #[.int .i64 0, .slice none 0 0, .int .u64 0, .int .i64 0, .slice none 0 0, .int .u64 0, .string ⟨#[]⟩, .slice none 0 0, .int .i64 0, .int .i64 0]], []⟩ 8 (by kernel_rfl) (by kernel_rfl) (by kernel_rfl) (by kernel_rfl)) ?_
  intro W base args ds gs before hval0 hW _ hz _
  have hval : ∀ (j : Nat) t v, Tryz.f8.params[j]? = some t → args[j]? = some v → Value.okWide Tryz.prog W .any base t v := hval0
  have hW' := hW
  obtain ⟨p, q, hA0, hV, rfl, hfz, hnd⟩ := hW
  have hA : DataW.TrodAll enc Tryz.prog W 0 (fun _ => true) true Tryz.f8.params.toList args.toList ds p := hA0
  rw [Tryz.params8] at hA hval hz
  obtain ⟨v0, d0, rfl, rfl, h0⟩ := trodAll_one hA
  obtain ⟨rfl, rfl⟩ := trodVars_none hV
  clear hA0 hval0
  simp only [List.append_nil] at hW'
  have hlt : ∀ x ∈ p, x.block < W.heap.size := fun x hx => by simpa using hW'.lt x (by simp [hx])
  have harg : ∀ (W' : World), Below W.heap.size W W' → DataW.Trod enc Tryz.prog W' 0 (fun b => decide (b < W.heap.size)) true 36 v0 d0 p := fun W' hn =>
    Below.trod laidOut (by kernel_rfl) (of_decide_eq_true (by kernel_rfl)) h0 hn hlt
  have hw0 : (d0.weights Tryz.prog 36).all (· ≤ reachBytes) = true := by
    simp only [List.cons_append, List.nil_append, List.append_nil, DataW.weightsEach, List.all_append, Bool.and_eq_true] at hz
    exact hz.1
  obtain ⟨A, B, ua, ub, lv, n, lb, num, den, rfl, sA, wA, lA, sB, wB, lB, sl, -⟩ := open_asked (hval 0 36 v0 rfl rfl) h0 hw0
  refine (keeps_walk A B ua ub lv n lb num den W sA wA lA sB wB lB sl (fun x hx => (lA x hx).2)).mono fun e W' ⟨he, hg⟩ => ?_
  subst he
  exact ⟨_, rfl, _, _, _, [], _, [], hW', trodAll_mk1 (shut_bool Tryz.underlying4 _), trodAll_mk1 (harg W' hg), rfl, hg.frame _, fun h => by cases h⟩
theorem snapKeeps_holds : Rows.SnapKeepsSaid :=
  OpenClaim.holds_of_wide 8 Tryz.f8 rfl rfl rfl rfl rfl rfl rfl ⟨rfl, rfl, rfl, rfl, rfl⟩ rfl rfl rfl rfl rfl (by kernel_rfl) Tryz.func8 (by kernel_rfl)
    (of_decide_eq_true (by kernel_rfl)) (by unfold Func.isWrapper; first | (rw [if_pos (by decide +kernel)]; kernel_rfl) | (rw [if_neg (by decide +kernel)]; exact ⟨rfl, rfl⟩))
    (fun os started H enc _ => snapKeeps_lifted os started H enc)
end Go.Proofs.YtckdkcnnfjbdmaaGreat
