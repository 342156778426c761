/- THE LAW's SamePart: the code's part and the document's. Own work of the verifier. -/
import Derived.Test.YtaeapikhhbjlnaaGreatDoorKN
namespace Go.Proofs.YtaeapikhhbjlnaaGreatDoor
open Go.RowKit

theorem SN.form {w : World} {v : Value} {L : List Cn} (h : SN w v L) : ∃ ao b o cap, v = .slice ao L.length cap ∧ (L ≠ [] → ao = some ⟨b, o, none⟩) ∧ RowC w b o L := by
  rcases h with ⟨rfl, rfl⟩ | ⟨b, o, cap, rfl, _, h⟩
  · exact ⟨none, 0, 0, 0, rfl, fun k => absurd rfl k, fun i hi => by simp at hi⟩
  · exact ⟨some ⟨b, o, none⟩, b, o, cap, rfl, fun _ => rfl, h⟩
set_option maxRecDepth 10000 in
set_option maxHeartbeats 4000000 in
theorem samePart_any (P : Pt) (v v' : Value) (w : World) (hv : SN w v P.L) (hv' : SN w v' P.L) (hl : P.L.length ≤ 1048576) :
    Calls Tryz.prog 44 #[.agg #[.int .i64 P.hi, .int .u64 P.lo, v, .int .u64 (P.n : Int), .complex .f64 P.s P.c, .float .f64 P.mn, .float .f64 P.mx], rpart P.hi P.lo v' P.n P.s P.c P.mn P.mx] w fun e w' => e = .returned (.bool true) ∧ Hid (Below w.heap.size w w') := by
  obtain ⟨ao, b, o, cap, rfl, hao, hr⟩ := hv.form
  obtain ⟨ao', b', o', cap', rfl, hao', hr'⟩ := hv'.form
  obtain ⟨hi, lo, L, n, s, c, mn, mx⟩ := P
  simp only at hao hao' hr hr' hl ⊢
  obtain ⟨w2, hw2⟩ : ∃ w2, (w.alloc (.cells #[.int .i64 hi, .int .u64 lo, .slice ao L.length cap, .int .u64 (n : Int), .complex .f64 s c, .float .f64 mn, .float .f64 mx] 97)).alloc (.cells #[.int .i64 hi, .int .u64 lo, .slice ao' L.length cap', .int .u64 (n : Int), .int .u64 (s : Int), .int .u64 (c : Int), .int .u64 (mn : Int), .int .u64 (mx : Int)] 130) = w2 := ⟨_, rfl⟩
  have hb : Below w.heap.size w w2 := by rw [← hw2]; exact bel2 _ _ _
  have HA : Hid (w2.heap[w.heap.size]? = some (.cells #[.int .i64 hi, .int .u64 lo, .slice ao L.length cap, .int .u64 (n : Int), .complex .f64 s c, .float .f64 mn, .float .f64 mx] 97 (0, 0))) := by rw [← hw2]; exact Pr.new1 _ _ _
  have HB : Hid (w2.heap[w.heap.size + 1]? = some (.cells #[.int .i64 hi, .int .u64 lo, .slice ao' L.length cap', .int .u64 (n : Int), .int .u64 (s : Int), .int .u64 (c : Int), .int .u64 (mn : Int), .int .u64 (mx : Int)] 130 (0, 0))) := by rw [← hw2]; exact Pr.new2 _ _ _
  obtain ⟨q0, q1, q2, q3, q4, q5, q6⟩ := seven_cells HA
  obtain ⟨p0, p1, p2, p3, p4, p5, p6, p7⟩ := eight_cells HB
  have HR : Hid (∀ i (hi : i < L.length), (w2.cell? ⟨b, o + i * 2, none⟩ = some (.int .i64 L[i].1) ∧ w2.cell? ⟨b, o + i * 2 + 1, none⟩ = some (.int .u64 (L[i].2 : Int))) ∧ w2.cell? ⟨b', o' + i * 2, none⟩ = some (.int .i64 L[i].1) ∧ w2.cell? ⟨b', o' + i * 2 + 1, none⟩ = some (.int .u64 (L[i].2 : Int))) := fun i hi => by
    have hL : L ≠ [] := fun e => by rw [e] at hi; simp at hi
    exact ⟨hr.below hb (fun k => hr.lt k) i hi, hr'.below hb (fun k => hr'.lt k) i hi⟩
  have HBw : Hid (Below w.heap.size w w2) := hb
  have Hao : Hid (L ≠ [] → ao = some ⟨b, o, none⟩) := hao
  have Hao' : Hid (L ≠ [] → ao' = some ⟨b', o', none⟩) := hao'
  have hb64 := Pr.mf64bits
  clear hao hao' hr hr' hb HA HB hv hv'
  go_enter Tryz.func44, Tryz.ntmps44
  go_wp2_with fail
  clear hw2
  have HS0 : Hid (w2.heap = w2.heap ∧ Below w.heap.size w w2) := ⟨rfl, HBw.out⟩
  go_loopw [5] (fun a wr => ∃ i : Nat, i ≤ L.length ∧ a = .int .i64 (i : Int) ∧ Hid (wr.heap = w2.heap ∧ Below w.heap.size w wr)) (fun a _ => L.length - (intOf a).toNat)
  case atStart => exact ⟨0, by omega, rfl, HS0.out⟩
  case round =>
    obtain ⟨i, hi', rfl, HS⟩ := hrel
    have hsame : Hid (∀ a, wr.cell? a = w2.cell? a) := fun a => World.cell?_of_block (by rw [HS.out.1])
    rw [← hsame.out] at q0 q1 q2 q3 q4 q5 q6 p0 p1 p2 p3 p4 p5 p6 p7
    by_cases hlt : i < L.length
    · have hlt' : (i : Int) < (L.length : Int) := by omega
      obtain ⟨⟨r0, r1⟩, r2, r3⟩ := HR.out i hlt
      have hL : L ≠ [] := fun e => by rw [e] at hlt; simp at hlt
      obtain rfl := Hao.out hL
      obtain rfl := Hao'.out hL
      rw [← hsame.out] at r0 r1 r2 r3
      have HE : Hid (wr.drew.heap = w2.heap ∧ Below w.heap.size w wr.drew) := ⟨HS.out.1, HS.out.2.drew⟩
      generalize L[i].1 = x at *
      generalize L[i].2 = y at *
      go_wp2_with fail
      go_region
      all_goals
        go_wp2_with fail
        exact ⟨⟨i + 1, by omega, by simp, HE.out⟩, by simp [intOf]; omega⟩
    · obtain rfl : i = L.length := by omega
      have hlt' : ¬ (L.length : Int) < (L.length : Int) := by omega
      have HE : Hid (Below w.heap.size w wr.drew) := HS.out.2.drew
      have HE0 : Hid (Below w.heap.size w wr) := HS.out.2
      go_wp2_with fail
      go_region
      all_goals
        go_wp2_with fail
        go_ret
        exact ⟨rfl, by first | exact HE | exact HE0⟩
end Go.Proofs.YtaeapikhhbjlnaaGreatDoor
/- THE LAW's STATE: the code, the document, the law's own lists. Own work of the verifier. -/
namespace Go.Proofs.YtaeapikhhbjlnaaGreatDoor
open Go.RowKit

/-- A recorder of both. -/
structure RcD where
  rc : Nat
  d : Nat
  st : Int
  cc : Bool
  cd : Bool
/-- What stays. -/
structure Kx where
  w : World
  k : Nat
  ph : Nat
  SL : List SlK
  n : Nat
  p : Nat
  pi : Int
  sb : Nat
  mb : Nat
  ib : Nat
  capI : Nat
  wb : Nat
  Bd : Nat
  slv : Value
def Ty (W : World) (x : Nat) (T : TypeId) : Prop := ∃ cs z, W.heap[x]? = some (.cells cs T z)
theorem ty_of {W : World} {x : Nat} {cs : Array Value} {T : TypeId} {z : Nat × Nat} (h : W.heap[x]? = some (.cells cs T z)) : Ty W x T := ⟨cs, z, h⟩
theorem Ty.eq {W : World} {x : Nat} {T T' : TypeId} (h : Ty W x T) (k : Ty W x T') : T = T' := by
  obtain ⟨cs, z, h⟩ := h
  obtain ⟨cs', z', k⟩ := k
  rw [h] at k
  injection k with k
  injection k with _ k
/-- All of S are of these types. -/
def Tys (W : World) (S : Nat → Prop) (Ts : List TypeId) : Prop := ∀ x, S x → ∃ T, T ∈ Ts ∧ Ty W x T
theorem Tys.no {W : World} {S : Nat → Prop} {Ts : List TypeId} (h : Tys W S Ts) {y : Nat} {T : TypeId} (hy : Ty W y T) (hT : T ∉ Ts) : ¬ S y := fun k => by
  obtain ⟨T', h1, h2⟩ := h y k
  rw [h2.eq hy] at h1
  exact hT h1
theorem own_ty {W : World} {B : Nat} {e : TypeId} {s n : Nat} {v : Value} {xs : List Value} (h : W.ownsRow B e s v n xs) {x : Nat} (hx : v.ownBlock = some x) : Ty W x e := by
  rcases h.2 with ⟨k, _⟩ | ⟨g, cap, cur, k, _, hg, _⟩
  · rw [k] at hx; cases hx
  · rw [k] at hx
    have : g = x := by simpa [Value.ownBlock] using hx
    rw [← this]
    exact ty_of hg
/-- A pointer. -/
abbrev ptr (x : Nat) : Value := .pointer (some ⟨x, 0, none⟩)
/-- What is true of what stays. -/
structure Kx.Ok (K : Kx) : Prop where
  dim : 0 < K.SL.length → 0 < K.n ∧ K.n ≤ 16 ∧ 1 ≤ K.p ∧ K.p ≤ 14 ∧ K.pi = (K.p : Int)
  few : K.SL.length ≤ 20
  ap : ∀ j (hj : j < K.SL.length) x, K.SL[j].Blk x → x ≠ K.k ∧ x ≠ K.ph ∧ x ≠ K.wb ∧ x < K.Bd
  apj : ∀ i j (hi : i < K.SL.length) (hj : j < K.SL.length), i ≠ j → ∀ g, g ∈ K.SL[i].G 0 ++ K.SL[i].G 1 → ¬ K.SL[j].Blk g
  kge : K.w.heap.size ≤ K.k ∧ K.w.heap.size ≤ K.ph ∧ K.w.heap.size ≤ K.wb ∧ K.w.heap.size ≤ K.Bd
  gge : ∀ j (hj : j < K.SL.length) g, g ∈ K.SL[j].G 0 ++ K.SL[j].G 1 → K.w.heap.size ≤ g
/-- The code's side. -/
structure CodeS (K : Kx) (t a : Nat) (r0 r1 : Int) (C : Nat → Nat → Nat → List Int) (W : World) : Prop where
  sh : Sh W K.k K.ph a r0 r1
  a2 : a < 2
  i0 : In64 r0
  i1 : In64 r1
  pq : ∃ neg m, Pq W K.ph neg m ∧ m ≤ t
  sl : ∀ j (hj : j < K.SL.length), SlW K.SL[j] K.p K.n (C j) W
  rows : ∀ j (hj : j < K.SL.length), ∀ b, b < 2 → ∀ i, i < K.n → RowOk K.SL[j].kd K.p t (C j b i)
/-- The document's side. -/
structure DocS (K : Kx) (t a : Nat) (r0 r1 : Int) (Is : List Ins) (C : Nat → Nat → Nat → List Int) (W : World) : Prop where
  doc : ∃ m, DocW K.sb K.mb K.ib K.capI m Is K.n K.p C W ∧ m.a = (a : Int) ∧ m.r0 = r0 ∧ m.r1 = r1 ∧ (0 < K.SL.length → m.st = (K.n : Int) ∧ m.pr = (K.p : Int))
  len : Is.length = K.SL.length
  kd : ∀ j (hj : j < Is.length) (hj' : j < K.SL.length), Is[j].kd = K.SL[j].kd
  ge : ∀ x, DBlk K.sb K.mb K.ib Is x → K.Bd ≤ x
  rows : ∀ j (hj : j < K.SL.length), ∀ b, b < 2 → ∀ i, i < K.n → RowOk K.SL[j].kd K.p t (C j b i)
/-- The recorders of both. -/
structure RecS (K : Kx) (Rs : List RcD) (W : World) : Prop where
  rc : ∀ i (hi : i < Rs.length), Rc W Rs[i].rc K.k Rs[i].st Rs[i].cc
  d : ∀ i (hi : i < Rs.length), W.heap[Rs[i].d]? = some (.cells #[.int .i64 Rs[i].st, .bool Rs[i].cd] 138 (0, 0))
  ge : ∀ i (hi : i < Rs.length), K.Bd ≤ Rs[i].rc ∧ K.Bd ≤ Rs[i].d
  inj : ∀ i j (hi : i < Rs.length) (hj : j < Rs.length), i ≠ j → Rs[i].rc ≠ Rs[j].rc ∧ Rs[i].d ≠ Rs[j].d
/-- The law's own lists. -/
structure LawS (K : Kx) (lv rv : Value) (Lp Rp : List Value) (W : World) : Prop where
  ex : W.heap[K.wb]? = some (.cells #[ptr K.k, lv, K.slv, .int .i64 K.pi, ptr K.sb, rv] 33 (0, 0)) ∧ W.ownsRow K.Bd 70 1 lv Lp.length Lp ∧ W.ownsRow K.Bd 136 1 rv Rp.length Rp
  sl : W.ownsRow K.w.heap.size 34 1 K.slv K.SL.length (K.SL.map fun X => ptr X.s)
section
variable {K : Kx} {t a : Nat} {r0 r1 : Int} {Rs : List RcD} {Is : List Ins} {C : Nat → Nat → Nat → List Int} {W W' : World} {S : Nat → Prop} {Ts : List TypeId}
theorem CodeS.keep (H : CodeS K t a r0 r1 C W) (hc : Chg S W W') (hT : Tys W S Ts) (h1 : 111 ∉ Ts) (h2 : 201 ∉ Ts) (hA : ∀ j (hj : j < K.SL.length) x, K.SL[j].Blk x → ¬ S x) : CodeS K t a r0 r1 C W' := by
  refine ⟨hc.Sh H.sh (hT.no (ty_of H.sh) h1), H.a2, H.i0, H.i1, ?_, fun j hj => (H.sl j hj).chg hc (hA j hj), H.rows⟩
  obtain ⟨neg, m, hp, hm⟩ := H.pq
  refine ⟨neg, m, hc.Pq hp (hT.no (T := 201) ?_ h2), hm⟩
  unfold Pq at hp
  cases neg
  · obtain ⟨o, ho⟩ := hp; exact ty_of ho
  · obtain ⟨o, ho⟩ := hp; exact ty_of ho
theorem DocS.keep (H : DocS K t a r0 r1 Is C W) (hc : Chg S W W') (hT : Tys W S Ts) (h1 : 135 ∉ Ts) (h2 : 124 ∉ Ts) (h3 : 132 ∉ Ts) (h4 : 2 ∉ Ts) (h5 : 161 ∉ Ts) : DocS K t a r0 r1 Is C W' := by
  obtain ⟨m, hD, hm⟩ := H.doc
  refine ⟨⟨m, hD.chg hc (fun x hx k => ?_), hm⟩, H.len, H.kd, H.ge, H.rows⟩
  obtain ⟨T, hm', cs, z, hx'⟩ := hT x k
  rcases hD.ty hx hx' with e | e | e | e | e <;> rw [e] at hm'
  · exact h1 hm'
  · exact h2 hm'
  · exact h3 hm'
  · exact h4 hm'
  · exact h5 hm'
theorem RecS.keep (H : RecS K Rs W) (hc : Chg S W W') (hT : Tys W S Ts) (h1 : 189 ∉ Ts) (h2 : 138 ∉ Ts) : RecS K Rs W' :=
  ⟨fun i hi => hc.Rc (H.rc i hi) (hT.no (ty_of (H.rc i hi)) h1), fun i hi => hc.at_ (H.d i hi) (hT.no (ty_of (H.d i hi)) h2), H.ge, H.inj⟩
theorem LawS.keep {lv rv : Value} {Lp Rp : List Value} (H : LawS K lv rv Lp Rp W) (hc : Chg S W W') (hT : Tys W S Ts) (h1 : 33 ∉ Ts) (h2 : 70 ∉ Ts) (h3 : 136 ∉ Ts) (h4 : 34 ∉ Ts) : LawS K lv rv Lp Rp W' := by
  obtain ⟨e1, e2, e3⟩ := H.ex
  exact ⟨⟨hc.at_ e1 (hT.no (ty_of e1) h1), hc.row e2 (fun x hx => hT.no (own_ty e2 hx) h2), hc.row e3 (fun x hx => hT.no (own_ty e3 hx) h3)⟩, hc.row H.sl (fun x hx => hT.no (own_ty H.sl hx) h4)⟩
theorem CodeS.mono {t' : Nat} (H : CodeS K t a r0 r1 C W) (h : t ≤ t') : CodeS K t' a r0 r1 C W := by
  obtain ⟨neg, m, hp, hm⟩ := H.pq
  exact ⟨H.sh, H.a2, H.i0, H.i1, ⟨neg, m, hp, by omega⟩, H.sl, fun j hj b hb i hi => (H.rows j hj b hb i hi).mono h⟩
theorem DocS.mono {t' : Nat} (H : DocS K t a r0 r1 Is C W) (h : t ≤ t') : DocS K t' a r0 r1 Is C W := ⟨H.doc, H.len, H.kd, H.ge, fun j hj b hb i hi => (H.rows j hj b hb i hi).mono h⟩
end
/-- All of it. -/
structure LS (K : Kx) (t ac ad : Nat) (r0 r1 s0 s1 : Int) (lv rv : Value) (Lp Rp : List Value) (Rs : List RcD) (Is : List Ins) (C D : Nat → Nat → Nat → List Int) (W : World) : Prop where
  bel : Below K.w.heap.size K.w W
  code : CodeS K t ac r0 r1 C W
  doc : DocS K t ad s0 s1 Is D W
  recs : RecS K Rs W
  law : LawS K lv rv Lp Rp W
theorem LS.below {K : Kx} {t ac ad : Nat} {r0 r1 s0 s1 : Int} {lv rv : Value} {Lp Rp : List Value} {Rs : List RcD} {Is : List Ins} {C D : Nat → Nat → Nat → List Int} {W W' : World} (H : LS K t ac ad r0 r1 s0 s1 lv rv Lp Rp Rs Is C D W) (hc : Chg (fun _ => False) W W') : LS K t ac ad r0 r1 s0 s1 lv rv Lp Rp Rs Is C D W' := by
  have hT : Tys W (fun _ => False) [] := fun x k => k.elim
  exact ⟨⟨hc.os.trans H.bel.os, hc.tape.trans H.bel.tape, hc.output.trans H.bel.output, Nat.le_trans H.bel.size hc.size, fun x hx => (hc.block x (Nat.lt_of_lt_of_le hx H.bel.size) (fun k => k)).trans (H.bel.block x hx)⟩, H.code.keep hc hT (by simp) (by simp) (fun _ _ _ _ k => k), H.doc.keep hc hT (by simp) (by simp) (by simp) (by simp) (by simp), H.recs.keep hc hT (by simp) (by simp), H.law.keep hc hT (by simp) (by simp) (by simp) (by simp)⟩
/-- Blocks of the law's own stay. -/
def Kept (W W' : World) : Prop := ∀ (x : Nat) (cs : Array Value) (T : TypeId) (z : Nat × Nat), (T = 42 ∨ T = 97) → W.heap[x]? = some (.cells cs T z) → W'.heap[x]? = some (.cells cs T z)
theorem kept_of {W W' : World} {S : Nat → Prop} {Ts : List TypeId} (hc : Chg S W W') (hT : Tys W S Ts) (h1 : 42 ∉ Ts) (h2 : 97 ∉ Ts) : Kept W W' := fun x cs T z hx h => hc.at_ h (hT.no (ty_of h) (by rcases hx with rfl | rfl; exact h1; exact h2))
theorem kept_below {W W' : World} (hb : Below W.heap.size W W') : Kept W W' := fun x _cs _T _z _ h => (hb.block x (Array.getElem?_eq_some_iff.1 h).1).trans h
theorem bel_chg {B : Nat} {a b c : World} {S : Nat → Prop} (h : Below B a b) (hB : B ≤ a.heap.size) (hc : Chg S b c) (hS : ∀ x, S x → B ≤ x) : Below B a c := h.trans (hc.below (Nat.le_trans hB h.size) hS)
end Go.Proofs.YtaeapikhhbjlnaaGreatDoor
/- THE LAW's STATE, behind the calls of records. Own work of the verifier. -/
namespace Go.Proofs.YtaeapikhhbjlnaaGreatDoor
open Go.RowKit

section
variable {K : Kx} {t ac ad : Nat} {r0 r1 s0 s1 : Int} {lv rv : Value} {Lp Rp : List Value} {Rs : List RcD} {Is : List Ins} {C D : Nat → Nat → Nat → List Int} {W W' : World}
theorem SlW.gty {X : SlK} {p n : Nat} {C : Nat → Nat → List Int} {w : World} (H : SlW X p n C w) {g : Nat} (hg : g ∈ X.G 0 ++ X.G 1) : Ty w g 108 := by
  have h : ∀ b, b < 2 → g ∈ X.G b → Ty w g 108 := fun b hb hm => by
    obtain ⟨i, hi, e⟩ := List.getElem_of_mem hm
    have := H.g.left b hb i hi
    rw [e] at this
    exact ty_of this
  rcases List.mem_append.1 hg with q | q
  · exact h 0 (by decide) q
  · exact h 1 (by decide) q
theorem CodeS.phty (H : CodeS K t ac r0 r1 C W) : Ty W K.ph 201 := by
  obtain ⟨neg, m, hp, _⟩ := H.pq
  unfold Pq at hp
  cases neg
  · obtain ⟨o, ho⟩ := hp; exact ty_of ho
  · obtain ⟨o, ho⟩ := hp; exact ty_of ho
/-- The code's side has changed. -/
theorem LS.c_step (hK : K.Ok) (H : LS K t ac ad r0 r1 s0 s1 lv rv Lp Rp Rs Is C D W) {t' ac' : Nat} {r0' r1' : Int} {C' : Nat → Nat → Nat → List Int} (ht : t ≤ t') (hC : CodeS K t' ac' r0' r1' C' W') {S : Nat → Prop} (hc : Chg S W W') (hS : ∀ x, S x → x = K.k ∨ x = K.ph ∨ ∃ j, ∃ hj : j < K.SL.length, x ∈ K.SL[j].G 0 ++ K.SL[j].G 1) : LS K t' ac' ad r0' r1' s0 s1 lv rv Lp Rp Rs Is C' D W' := by
  have hT : Tys W S [111, 201, 108] := fun x k => by
    rcases hS x k with rfl | rfl | ⟨j, hj, hx⟩
    · exact ⟨_, by simp, ty_of H.code.sh⟩
    · exact ⟨201, by simp, H.code.phty⟩
    · exact ⟨108, by simp, (H.code.sl j hj).gty hx⟩
  have hge : ∀ x, S x → K.w.heap.size ≤ x := fun x k => by
    rcases hS x k with rfl | rfl | ⟨j, hj, hx⟩
    · exact hK.kge.1
    · exact hK.kge.2.1
    · exact hK.gge j hj x hx
  exact ⟨bel_chg H.bel (Nat.le_refl _) hc hge, hC, (H.doc.keep hc hT (by decide) (by decide) (by decide) (by decide) (by decide)).mono ht, H.recs.keep hc hT (by decide) (by decide), H.law.keep hc hT (by decide) (by decide) (by decide) (by decide)⟩
/-- The document's side has changed. -/
theorem LS.d_step (hK : K.Ok) (H : LS K t ac ad r0 r1 s0 s1 lv rv Lp Rp Rs Is C D W) {t' ad' : Nat} {s0' s1' : Int} {Is' : List Ins} {D' : Nat → Nat → Nat → List Int} (ht : t ≤ t') (hD : DocS K t' ad' s0' s1' Is' D' W') {S : Nat → Prop} (hc : Chg S W W') (hT : Tys W S [124, 2, 161]) (hS : ∀ x, S x → K.Bd ≤ x) : LS K t' ac ad' r0 r1 s0' s1' lv rv Lp Rp Rs Is' C D' W' :=
  ⟨bel_chg H.bel (Nat.le_refl _) hc (fun x k => Nat.le_trans hK.kge.2.2.2 (hS x k)), (H.code.keep hc hT (by decide) (by decide) (fun j hj x hx k => by
    have h1 := hS x k
    have h2 := (hK.ap j hj x hx).2.2.2
    omega)).mono ht, hD, H.recs.keep hc hT (by decide) (by decide), H.law.keep hc hT (by decide) (by decide) (by decide) (by decide)⟩
/-- What a record of the code finds. -/
theorem LS.rck (hK : K.Ok) (H : LS K t ac ad r0 r1 s0 s1 lv rv Lp Rp Rs Is C D W) (ht : t < 70368744177664) {i id : Nat} (hi : i < Rs.length) (hid : id < K.SL.length) : ∃ neg m, m ≤ t ∧ RcK K.SL[id] K.p K.n t (C id) Rs[i].rc K.k K.ph ac m r0 r1 Rs[i].st neg Rs[i].cc W := by
  obtain ⟨neg, m, hp, hm⟩ := H.code.pq
  obtain ⟨d1, d2, d3, d4, _⟩ := hK.dim (by omega)
  exact ⟨neg, m, hm, ⟨H.code.sl id hid, d1, d2, d3, d4, H.code.a2, by omega, H.code.i0, H.code.i1, H.recs.rc i hi, H.code.sh, hp, fun x hx => ⟨(hK.ap id hid x hx).1, (hK.ap id hid x hx).2.1⟩, H.code.rows id hid, ht⟩⟩
theorem in_bmp {er : Int} {a b : Nat} {r : Int} (h : In64 r) : In64 (bmp er a b r) := by
  unfold bmp
  split
  · exact h
  · split
    · exact in_wrap _
    · exact h
theorem ansF_0 {why st : Int} {n : Nat} (h : ansF why st n = 0) : why = 0 ∧ ∃ i : Nat, st = (i : Int) ∧ i < n := by
  unfold ansF at h
  by_cases h0 : why = 0
  · rw [if_pos h0] at h
    by_cases h1 : 0 ≤ st ∧ st < (n : Int)
    · exact ⟨h0, in_range h1⟩
    · rw [if_neg h1] at h; exact absurd h (by decide)
  · rw [if_neg h0] at h; exact absurd h h0
/-- Rows behind a record. -/
theorem rows_next {kd kind x st : Int} {p n t a f : Nat} {cl : Bool} {Cj : Nat → Nat → List Int} (hr : ∀ b, b < 2 → ∀ i, i < n → RowOk kd p t (Cj b i)) (hk : kind = 4 ∨ kind = 5 ∨ kind = 6) (ht : t < 70368744177664) (hf : f < 18446744073709551616) (ha : a < 2) (er : Int) (her : er = ansF (whyF kind kd x f cl) st n) : ∀ b, b < 2 → ∀ i, i < n → RowOk kd p (t + 1) (nxC kind p Cj a st x f er b i) := fun b hb i hi => by
  by_cases h0 : er = 0
  · rw [h0] at her ⊢
    obtain ⟨h1, i', rfl, hi'⟩ := ansF_0 her.symm
    rw [nxC_ok]
    by_cases h2 : b = a ∧ i = i'
    · obtain ⟨rfl, rfl⟩ := h2
      rw [upC_at]
      exact (hr b hb i hi).laid hk ht hf h1
    · rw [upC_ne _ _ _ _ _ _ h2]
      exact (hr b hb i hi).mono (by omega)
  · rw [nxC_no h0]
    exact (hr b hb i hi).mono (by omega)
/-- The code's side, behind a record. -/
theorem LS.c_rec (hK : K.Ok) (H : LS K t ac ad r0 r1 s0 s1 lv rv Lp Rp Rs Is C D W) (ht : t < 70368744177664) {i id m f : Nat} (hi : i < Rs.length) (hid : id < K.SL.length) {kind x er : Int} {neg : Bool} (hm : m ≤ t) (hk : kind = 4 ∨ kind = 5 ∨ kind = 6) (hf : f < 18446744073709551616) (her : er = ansF (whyF kind K.SL[id].kd x f Rs[i].cc) Rs[i].st K.n) (hQ : RcQ K.SL[id] K.p K.n (nxC kind K.p (C id) ac Rs[i].st x f er) K.k K.ph ac m r0 r1 neg er W W') :
    LS K (t + 1) ac ad (bmp er ac 0 r0) (bmp er ac 1 r1) s0 s1 lv rv Lp Rp Rs Is (upJ C id (nxC kind K.p (C id) ac Rs[i].st x f er)) D W' ∧ Kept W W' := by
  obtain ⟨q1, q2, q3, q4⟩ := hQ
  refine ⟨?_, kept_of (Ts := [111, 201, 108]) q4 (fun y k => by
    rcases k with k | k | k
    · exact ⟨108, by simp, (H.code.sl id hid).gty k⟩
    · exact ⟨111, by simp, by rw [k]; exact ty_of H.code.sh⟩
    · exact ⟨201, by simp, by rw [k]; exact H.code.phty⟩) (by decide) (by decide)⟩
  refine H.c_step hK (by omega) ⟨q1, H.code.a2, in_bmp H.code.i0, in_bmp H.code.i1, ⟨neg, m + 1, q2, by omega⟩, fun j hj => ?_, fun j hj => ?_⟩ q4 (fun y k => ?_)
  · by_cases h : j = id
    · subst h
      rw [upJ_at]
      exact q3
    · rw [upJ_ne _ _ h]
      refine (H.code.sl j hj).chg q4 (fun y hy k => ?_)
      rcases k with k | k | k
      · exact hK.apj id j hid hj (fun e => h e.symm) y k hy
      · exact (hK.ap j hj y hy).1 k
      · exact (hK.ap j hj y hy).2.1 k
  · by_cases h : j = id
    · subst h
      rw [upJ_at]
      exact rows_next (H.code.rows j hj) hk ht hf H.code.a2 er her
    · rw [upJ_ne _ _ h]
      exact fun b hb i' hi' => (H.code.rows j hj b hb i' hi').mono (by omega)
  · rcases k with k | k | k
    · exact Or.inr (Or.inr ⟨id, hid, k⟩)
    · exact Or.inl k
    · exact Or.inr (Or.inl k)
/-- The document's side, behind a record. -/
theorem LS.d_rec (hK : K.Ok) (H : LS K t ac ad r0 r1 s0 s1 lv rv Lp Rp Rs Is C D W) (had : ad < 2) (ht : t < 70368744177664) {i id f : Nat} (hi : i < Rs.length) (hid : id < K.SL.length) {kind x er : Int} (hx : In64 x) (hk : kind = 4 ∨ kind = 5 ∨ kind = 6) (hf : f < 18446744073709551616) (her : er = ansF (whyF kind K.SL[id].kd x f Rs[i].cd) Rs[i].st K.n) :
    Calls Tryz.prog 84 #[ptr K.sb, ptr Rs[i].d, .int .i64 kind, .int .i64 (id : Int), .int .i64 x, .int .u64 (f : Int)] W fun e w' => e = .returned (.int .i64 er) ∧ Hid (LS K (t + 1) ac ad r0 r1 (bmp er ad 0 s0) (bmp er ad 1 s1) lv rv Lp Rp Rs Is C (upJ D id (nxC kind K.p (D id) ad Rs[i].st x f er)) w' ∧ Kept W w') := by
  obtain ⟨d1, d2, d3, d4, _⟩ := hK.dim (by omega)
  have hlen := H.doc.len
  have few := hK.few
  have hid2 : id < Is.length := by omega
  have hkd := H.doc.kd id hid2 hid
  obtain ⟨m, hD, ma, m0, m1, mst⟩ := H.doc.doc
  obtain ⟨mst, mpr⟩ := mst (by omega)
  have hrw := H.doc.rows id hid
  have hd := H.recs.d i hi
  have fin : ∀ (m' : Mc) (w' : World) (S : Nat → Prop), DocW K.sb K.mb K.ib K.capI m' Is K.n K.p (upJ D id (nxC kind K.p (D id) ad Rs[i].st x f er)) w' → m'.a = (ad : Int) → m'.r0 = bmp er ad 0 s0 → m'.r1 = bmp er ad 1 s1 → m'.st = (K.n : Int) → m'.pr = (K.p : Int) → Chg S W w' → (∀ y, S y → y = K.mb ∨ y ∈ Is[id].g ad) → LS K (t + 1) ac ad r0 r1 (bmp er ad 0 s0) (bmp er ad 1 s1) lv rv Lp Rp Rs Is C (upJ D id (nxC kind K.p (D id) ad Rs[i].st x f er)) w' ∧ Kept W w' := fun m' w' S e1 e2 e3 e4 e5 e6 e7 e8 => by
    have hT : Tys W S [124, 2, 161] := fun y k => by
      rcases e8 y k with rfl | h
      · exact ⟨_, by simp, ty_of hD.mach⟩
      · obtain ⟨i', hi', e⟩ := List.getElem_of_mem h
        have := (hD.ins id hid2).row ad had i' hi'
        rw [e] at this
        exact ⟨_, by simp, ty_of this⟩
    refine ⟨?_, kept_of e7 hT (by decide) (by decide)⟩
    refine H.d_step hK (by omega) ⟨⟨m', e1, e2, e3, e4, fun _ => ⟨e5, e6⟩⟩, hlen, H.doc.kd, H.doc.ge, fun j hj => ?_⟩ e7 hT (fun y k => ?_)
    · by_cases h : j = id
      · subst h
        rw [upJ_at]
        exact rows_next hrw hk ht hf had er her
      · rw [upJ_ne _ _ h]
        exact fun b hb i' hi' => (H.doc.rows j hj b hb i' hi').mono (by omega)
    · rcases e8 y k with rfl | h
      · exact H.doc.ge _ (Or.inr (Or.inl rfl))
      · exact H.doc.ge _ (Or.inr (Or.inr (Or.inr ⟨id, hid2, Is[id].blk_g had h⟩)))
  rw [← hkd] at her hrw
  by_cases hr : 0 ≤ Rs[i].st ∧ Rs[i].st < (K.n : Int)
  · obtain ⟨i', e, hi'⟩ := in_range hr
    rw [e] at hd fin her ⊢
    have her2 : er = whyF kind Is[id].kd x f Rs[i].cd := by
      rw [her]
      unfold ansF
      by_cases h0 : whyF kind Is[id].kd x f Rs[i].cd = 0
      · rw [if_pos h0, if_pos (by omega), h0]
      · rw [if_neg h0]
    refine Calls.mono (rec14_in hD hid2 (by omega) hd hi' ma had hk hf hx mst mpr d3 d4 (hrw ad had i' hi') er her2) ?_
    rintro e w' ⟨rfl, q⟩
    obtain ⟨q1, rb, hrb, q2⟩ := q.out
    obtain ⟨a1, a2, a3, _, a5, a6⟩ := aft_all m er ad had
    exact ⟨rfl, fin _ w' _ q1 (by rw [a3, ma]) (by rw [a5, m0]) (by rw [a6, m1]) (by rw [a1, mst]) (by rw [a2, mpr]) q2 (fun y k => by
      rcases k with k | k
      · exact Or.inl k
      · exact Or.inr (by rw [k]; exact hrb))⟩
  · have hne : ¬ er = 0 := fun e => by
      rw [e] at her
      obtain ⟨_, i', h1, h2⟩ := ansF_0 her.symm
      exact hr ⟨by omega, by omega⟩
    have her2 : er = if whyF kind Is[id].kd x f Rs[i].cd = 0 then 1 else whyF kind Is[id].kd x f Rs[i].cd := by
      rw [her]
      unfold ansF
      rw [if_neg hr]
    rw [nxC_no hne] at fin ⊢
    have hsame : ∀ w', DocW K.sb K.mb K.ib K.capI (m.ref ad) Is K.n K.p D w' → DocW K.sb K.mb K.ib K.capI (m.ref ad) Is K.n K.p (upJ D id (D id)) w' := fun w' h => by
      have e : upJ D id (D id) = D := by
        funext j
        by_cases h : j = id
        · rw [h, upJ_at]
        · rw [upJ_ne _ _ h]
      rw [e]; exact h
    refine Calls.mono (rec14_out hD hid2 (by omega) hd hr ma had hk hf hx d1 d2 mst mpr d3 d4 (by rw [hkd]; exact (H.code.sl id hid).kd) _ rfl er her2) ?_
    rintro e w' ⟨rfl, q⟩
    obtain ⟨a1, a2, a3, _, a5, a6⟩ := m.ref_all ad had er hne
    exact ⟨rfl, fin _ w' _ (hsame w' q.out.1) (by rw [a3, ma]) (by rw [a5, m0]) (by rw [a6, m1]) (by rw [a1, mst]) (by rw [a2, mpr]) q.out.2 (fun y k => Or.inl k)⟩
end
end Go.Proofs.YtaeapikhhbjlnaaGreatDoor
/- THE LAW's STATE, behind its other calls. Own work of the verifier. -/
namespace Go.Proofs.YtaeapikhhbjlnaaGreatDoor
open Go.RowKit

section
variable {K : Kx} {t ac ad : Nat} {r0 r1 s0 s1 : Int} {lv rv : Value} {Lp Rp : List Value} {Rs : List RcD} {Is : List Ins} {C D : Nat → Nat → Nat → List Int} {W W' : World}
/-- The code's Turn. -/
theorem LS.c_turn (hK : K.Ok) (H : LS K t ac ad r0 r1 s0 s1 lv rv Lp Rp Rs Is C D W) (ht : t < 70368744177664) :
    Calls Tryz.prog 31 #[ptr K.k, .pointer none] W fun e w' => e = .returned (.tuple #[.int .i64 (ac : Int), .int .i64 0]) ∧ Hid (LS K t (1 - ac) ad r0 r1 s0 s1 lv rv Lp Rp Rs Is C D w' ∧ Kept W w') := by
  obtain ⟨neg, m, hp, hm⟩ := H.code.pq
  have hkp : K.ph ≠ K.k := fun e => by
    have := H.code.phty
    rw [e] at this
    exact absurd (this.eq (ty_of H.code.sh)) (by decide)
  refine Calls.mono (turn_any K.k K.ph ac r0 r1 neg m H.code.a2 (by omega) hkp W H.code.sh hp) ?_
  rintro e w' ⟨rfl, q1, q2, q3⟩
  obtain ⟨w1, m1, m2⟩ := q3.out
  have hc : Chg (fun x => x = K.k ∨ x = K.ph) W w' := (Chg.of_mid (S := fun x => x = K.k ∨ x = K.ph) m1 (Or.inl rfl)).trans (Chg.of_mid (S := fun x => x = K.k ∨ x = K.ph) m2 (Or.inr rfl)) (fun x e => Or.inl e)
  have hT : Tys W (fun x => x = K.k ∨ x = K.ph) [111, 201] := fun y k => by
    rcases k with k | k
    · exact ⟨111, by simp, by rw [k]; exact ty_of H.code.sh⟩
    · exact ⟨201, by simp, by rw [k]; exact H.code.phty⟩
  refine ⟨rfl, H.c_step hK (Nat.le_refl _) ⟨q1.out, by omega, H.code.i0, H.code.i1, ⟨!neg, 0, q2.out, Nat.zero_le _⟩, fun j hj => (H.code.sl j hj).chg hc (fun x hx k => ?_), H.code.rows⟩ hc (fun x k => ?_), kept_of hc hT (by decide) (by decide)⟩
  · have := hK.ap j hj x hx
    rcases k with k | k
    · exact this.1 k
    · exact this.2.1 k
  · rcases k with k | k
    · exact Or.inl k
    · exact Or.inr (Or.inl k)
/-- The shared words have changed, by what was refused. -/
theorem LS.c_ref (hK : K.Ok) (H : LS K t ac ad r0 r1 s0 s1 lv rv Lp Rp Rs Is C D W) {r0' r1' : Int} (h0 : In64 r0') (h1 : In64 r1') (hs : Sh W' K.k K.ph ac r0' r1') (hm : Mid K.k (K.k + 1) W W') : LS K t ac ad r0' r1' s0 s1 lv rv Lp Rp Rs Is C D W' ∧ Kept W W' := by
  have hc : Chg (fun x => x = K.k) W W' := Chg.of_mid (S := fun x => x = K.k) hm rfl
  have hT : Tys W (fun x => x = K.k) [111] := fun y k => ⟨111, by simp, by rw [show y = K.k from k]; exact ty_of H.code.sh⟩
  obtain ⟨neg, m, hp, hm'⟩ := H.code.pq
  have hph := hT.no H.code.phty (by decide)
  exact ⟨H.c_step hK (Nat.le_refl _) ⟨hs, H.code.a2, h0, h1, ⟨neg, m, hc.Pq hp hph, hm'⟩, fun j hj => (H.code.sl j hj).chg hc (fun x hx k => (hK.ap j hj x hx).1 k), H.code.rows⟩ hc (fun x k => Or.inl k), kept_of hc hT (by decide) (by decide)⟩
/-- The document's machine has changed. -/
theorem LS.d_mach (hK : K.Ok) (H : LS K t ac ad r0 r1 s0 s1 lv rv Lp Rp Rs Is C D W) {ad' : Nat} {s0' s1' : Int} {m m' : Mc} (hD : DocW K.sb K.mb K.ib K.capI m Is K.n K.p D W) (hst : 0 < K.SL.length → m.st = (K.n : Int) ∧ m.pr = (K.p : Int)) (hS : Sdm K.sb K.mb m' W') (hc : Chg (fun x => x = K.mb) W W') (h1 : m'.l = m.l) (h2 : m'.st = m.st) (h3 : m'.pr = m.pr) (h4 : m'.a = (ad' : Int)) (h5 : m'.r0 = s0') (h6 : m'.r1 = s1') : LS K t ac ad' r0 r1 s0' s1' lv rv Lp Rp Rs Is C D W' ∧ Kept W W' := by
  have hT : Tys W (fun x => x = K.mb) [124, 2, 161] := fun y k => ⟨124, by simp, by rw [show y = K.mb from k]; exact ty_of hD.mach⟩
  exact ⟨H.d_step hK (Nat.le_refl _) ⟨⟨m', hD.machine hc hS.mach h1, h4, h5, h6, fun h => by rw [h2, h3]; exact hst h⟩, H.doc.len, H.doc.kd, H.doc.ge, H.doc.rows⟩ hc hT (fun x k => by rw [show x = K.mb from k]; exact H.doc.ge _ (Or.inr (Or.inl rfl))), kept_of hc hT (by decide) (by decide)⟩
/-- The document's Turn. -/
theorem LS.d_turn (hK : K.Ok) (H : LS K t ac ad r0 r1 s0 s1 lv rv Lp Rp Rs Is C D W) (had : ad < 2) :
    Calls Tryz.prog 43 #[ptr K.sb] W fun e w' => e = .returned (.int .i64 (ad : Int)) ∧ Hid (LS K t ac (1 - ad) r0 r1 s0 s1 lv rv Lp Rp Rs Is C D w' ∧ Kept W w') := by
  obtain ⟨m, hD, ma, m0, m1, mst⟩ := H.doc.doc
  refine Calls.mono (turn14_any K.sb K.mb ad m W hD.sdm hD.ne ma had) ?_
  rintro e w' ⟨rfl, q1, q2⟩
  exact ⟨rfl, H.d_mach hK hD mst q1.out q2.out rfl rfl rfl rfl m0 m1⟩
/-- Refused, of both. -/
theorem LS.c_refused (hK : K.Ok) (H : LS K t ac ad r0 r1 s0 s1 lv rv Lp Rp Rs Is C D W) (b : Int) (x : Int) (y0 y1 : Int) (hb : (b = 0 ∧ x = uw r0 ∧ y0 = 0 ∧ y1 = r1) ∨ (b = 1 ∧ x = uw r1 ∧ y0 = r0 ∧ y1 = 0) ∨ ((b < 0 ∨ 2 ≤ b) ∧ x = 0 ∧ y0 = r0 ∧ y1 = r1)) :
    Calls Tryz.prog 13 #[ptr K.k, .pointer none, .int .i64 b] W fun e w' => e = .returned (.int .u64 x) ∧ Hid (LS K t ac ad y0 y1 s0 s1 lv rv Lp Rp Rs Is C D w' ∧ Kept W w') := by
  have i0 : In64 0 := ⟨by decide, by decide⟩
  rcases hb with ⟨rfl, rfl, rfl, rfl⟩ | ⟨rfl, rfl, rfl, rfl⟩ | ⟨hb, rfl, rfl, rfl⟩
  · refine Calls.mono (refused_0 K.k K.ph ac r0 y1 W H.code.sh) ?_
    rintro e w' ⟨rfl, q1, q2⟩
    exact ⟨rfl, H.c_ref hK i0 H.code.i1 q1.out q2.out⟩
  · refine Calls.mono (refused_1 K.k K.ph ac y0 r1 W H.code.sh) ?_
    rintro e w' ⟨rfl, q1, q2⟩
    exact ⟨rfl, H.c_ref hK H.code.i0 i0 q1.out q2.out⟩
  · refine Calls.mono (refused_no K.k b hb W) ?_
    rintro e w' ⟨rfl, rfl⟩
    exact ⟨rfl, H, kept_below (Below.refl _ _)⟩
theorem LS.d_refused (hK : K.Ok) (H : LS K t ac ad r0 r1 s0 s1 lv rv Lp Rp Rs Is C D W) (b : Int) (x : Int) (y0 y1 : Int) (hb : (b = 0 ∧ x = uw s0 ∧ y0 = 0 ∧ y1 = s1) ∨ (b = 1 ∧ x = uw s1 ∧ y0 = s0 ∧ y1 = 0) ∨ ((b < 0 ∨ 2 ≤ b) ∧ x = 0 ∧ y0 = s0 ∧ y1 = s1)) :
    Calls Tryz.prog 14 #[ptr K.sb, .int .i64 b] W fun e w' => e = .returned (.int .u64 x) ∧ Hid (LS K t ac ad r0 r1 y0 y1 lv rv Lp Rp Rs Is C D w' ∧ Kept W w') := by
  obtain ⟨m, hD, ma, m0, m1, mst⟩ := H.doc.doc
  rcases hb with ⟨rfl, rfl, rfl, rfl⟩ | ⟨rfl, rfl, rfl, rfl⟩ | ⟨hb, rfl, rfl, rfl⟩
  · rw [← m0]
    refine Calls.mono (refd14_0 K.sb K.mb m W hD.sdm hD.ne) ?_
    rintro e w' ⟨rfl, q1, q2⟩
    exact ⟨rfl, H.d_mach hK hD mst q1.out q2.out rfl rfl rfl ma rfl m1⟩
  · rw [← m1]
    refine Calls.mono (refd14_1 K.sb K.mb m W hD.sdm hD.ne) ?_
    rintro e w' ⟨rfl, q1, q2⟩
    exact ⟨rfl, H.d_mach hK hD mst q1.out q2.out rfl rfl rfl ma m0 rfl⟩
  · refine Calls.mono (refd14_no K.sb b (by omega) (by omega) W) ?_
    rintro e w' ⟨rfl, rfl⟩
    exact ⟨rfl, H, kept_below (Below.refl _ _)⟩
/-- Drain, the code's. -/
theorem LS.c_drain (hK : K.Ok) (H : LS K t ac ad r0 r1 s0 s1 lv rv Lp Rp Rs Is C D W) (ht : t < 70368744177664) {id b : Nat} (hid : id < K.SL.length) (hb : b < 2) :
    Calls Tryz.prog 32 #[ptr K.SL[id].s, .pointer none, .int .i64 (b : Int)] W fun e w' => ∃ (P : Pt) (ao : Option Addr) (k cap : Nat), e = .returned (.tuple #[.agg #[.int .i64 P.hi, .int .u64 P.lo, .slice ao k cap, .int .u64 (P.n : Int), .complex .f64 P.s P.c, .float .f64 P.mn, .float .f64 P.mx], .int .i64 0]) ∧ Hid (W.heap.size ≤ w'.heap.size ∧ FoldR (fun i => ptF K.SL[id].kd (C id b i)) K.n P ∧ P.Ok 1048576 ∧ w'.ownsRow W.heap.size 222 2 (.slice ao k cap) P.L.length (fl P.L) ∧ LS K t ac ad r0 r1 s0 s1 lv rv Lp Rp Rs Is (upJ C id (upB (C id) b (fun _ => frst K.SL[id].kd (K.p : Int)))) D w' ∧ Kept W w') := by
  obtain ⟨d1, d2, d3, d4, _⟩ := hK.dim (by omega)
  refine Calls.mono (drainK (H.code.sl id hid) d2 d3 d4 ht b hb (H.code.rows id hid b hb)) ?_
  rintro e w' ⟨P, ao, k, cap, rfl, q⟩
  obtain ⟨q1, q2, q3, q4, q5⟩ := q.out
  have hT : Tys W (fun x => x ∈ K.SL[id].G 0 ++ K.SL[id].G 1) [108] := fun y k => ⟨108, by simp, (H.code.sl id hid).gty k⟩
  obtain ⟨neg, m, hp, hm'⟩ := H.code.pq
  refine ⟨P, ao, k, cap, rfl, q5.size, q1, q2, q3, H.c_step hK (Nat.le_refl _) ⟨q5.Sh H.code.sh (hT.no (ty_of H.code.sh) (by decide)), H.code.a2, H.code.i0, H.code.i1, ⟨neg, m, q5.Pq hp (hT.no H.code.phty (by decide)), hm'⟩, fun j hj => ?_, fun j hj => ?_⟩ q5 (fun x k => Or.inr (Or.inr ⟨id, hid, k⟩)), kept_of q5 hT (by decide) (by decide)⟩
  · by_cases h : j = id
    · subst h
      rw [upJ_at]
      exact q4
    · rw [upJ_ne _ _ h]
      exact (H.code.sl j hj).chg q5 (fun y hy k => hK.apj id j hid hj (fun e => h e.symm) y k hy)
  · by_cases h : j = id
    · subst h
      rw [upJ_at]
      intro b' hb' i hi
      by_cases hbb : b' = b
      · subst hbb
        rw [upB_at]
        exact RowOk.first (H.code.sl j hj).kd t
      · rw [upB_ne _ _ _ _ _ hbb]
        exact H.code.rows j hj b' hb' i hi
    · rw [upJ_ne _ _ h]
      exact H.code.rows j hj
end
end Go.Proofs.YtaeapikhhbjlnaaGreatDoor
