/- RegistryCounts: a round of names. Own work of the verifier. -/
import Derived.Test.YtfnohbalkpponaaGreatDoorZRM
import Derived.Test.YtfnohbalkpponaaGreatDoorZRK
namespace Go.Proofs.YtfnohbalkpponaaGreatDoor
open Go.RowKit Go.Maps

/-- The numbers that were told. -/
abbrev IdsW (w : World) (x : Value) (ids : List Int) (W : World) : Prop := W.ownsRow w.heap.size 3 1 x ids.length (ids.map (fun y => Value.int .i64 y))
/-- Labels and a description. -/
structure LdW (v : List UInt8) (g : Nat) (W : World) : Prop where
  lab : W.heap[g]? = some (.cells #[.string ⟨#[110]⟩, .string ⟨v.toArray⟩] 54 (0, 0))
  des : W.heap[g + 1]? = some (.cells #[.int .i64 1, .string ⟨#[99]⟩, .string ⟨#[]⟩, .slice (some ⟨g, 0, none⟩) 1 1] 41 (0, 0))
theorem LdW.kept {v : List UInt8} {g : Nat} {W w' : World} (h : LdW v g W) (k : KeptR W w') : LdW v g w' := ⟨k.at_ h.lab (by decide), k.at_ h.des (by decide)⟩
theorem LdW.cells {v : List UInt8} {g : Nat} {W : World} (h : LdW v g W) : W.cell? ⟨g + 1, 0, none⟩ = some (.int .i64 1) ∧ W.cell? ⟨g + 1, 1, none⟩ = some (.string ⟨#[99]⟩) ∧ W.cell? ⟨g + 1, 2, none⟩ = some (.string ⟨#[]⟩) ∧ W.cell? ⟨g + 1, 3, none⟩ = some (.slice (some ⟨g, 0, none⟩) 1 1) := four_c h.des
theorem ids_kept {w : World} {x : Value} {ids : List Int} {W w' : World} (h : IdsW w x ids W) (k : KeptR W w') : IdsW w x ids w' := k.row h (by decide)
section
variable {b ra rb n t g : Nat} {v : List UInt8} {x : Value} {ids : List Int} {w W W' : World}
theorem stepA (H : Ct b ra rb n t 0 0 0 w W) (hI : IdsW w x ids W) (hL : LdW v g W) (ht : t < 4611686018427387904) (hn : n < 249) (hv : v.length ≤ 4611686018427387904) (hz : La.txE v ≠ 0) :
    Calls Tryz.prog 11 #[.pointer (some ⟨b, 0, none⟩), .pointer none, .agg #[.int .i64 1, .string ⟨#[99]⟩, .string ⟨#[]⟩, .slice (some ⟨g, 0, none⟩) 1 1]] W fun e w' => e = .returned (.tuple #[.int .i64 0, .int .i64 (La.txE v)]) ∧ Hid (Ct b ra rb n t 0 0 0 w w' ∧ IdsW w x ids w' ∧ LdW v g w') := by
  obtain ⟨d1, d2⟩ := lay_dN hL.lab
  refine Calls.mono (H.reg1 ht hn v hv _ d1 d2) ?_
  rintro e w' ⟨id, er, rfl, q⟩
  rcases q.out.1 with ⟨_, e1, e2, e3⟩ | ⟨e1, _⟩
  · subst e1 e2
    exact ⟨rfl, e3, ids_kept hI q.out.2, hL.kept q.out.2⟩
  · exact absurd e1 hz
theorem stepB1 (H : Ct b ra rb n t 0 0 0 w W) (hI : IdsW w x ids W) (hL : LdW v g W) (ht : t < 4611686018427387904) (hn : n < 249) (hv : v.length ≤ 4611686018427387904) (hz : La.txE v = 0) :
    Calls Tryz.prog 11 #[.pointer (some ⟨b, 0, none⟩), .pointer none, .agg #[.int .i64 1, .string ⟨#[99]⟩, .string ⟨#[]⟩, .slice (some ⟨g, 0, none⟩) 1 1]] W fun e w' => ∃ k : Nat, e = .returned (.tuple #[.int .i64 (k : Int), .int .i64 0]) ∧ Hid (Ct1 v b ra rb n t (k : Int) 0 w w' ∧ IdsW w x ids w' ∧ LdW v g w') := by
  obtain ⟨d1, d2⟩ := lay_dN hL.lab
  refine Calls.mono (H.reg1 ht hn v hv _ d1 d2) ?_
  rintro e w' ⟨id, er, rfl, q⟩
  have q1 := q.out.1
  rcases q.out.1 with ⟨e1, _⟩ | ⟨_, e2, k, R, I, room, tv, rf, TP, D, SL, C, a, r0, r1, hk, e3, _⟩
  · exact absurd hz e1
  · subst e2 e3
    exact ⟨k, rfl, q1, ids_kept hI q.out.2, hL.kept q.out.2⟩
theorem stepB2 {k : Nat} (H : Ct1 v b ra rb n t (k : Int) 0 w W) (hI : IdsW w x ids W) (hL : LdW v g W) (ht : t + 1 < 4611686018427387904) (hn : n < 249) (hv : v.length ≤ 4611686018427387904) (hz : La.txE v = 0) :
    Calls Tryz.prog 11 #[.pointer (some ⟨b, 0, none⟩), .pointer none, .agg #[.int .i64 1, .string ⟨#[99]⟩, .string ⟨#[]⟩, .slice (some ⟨g, 0, none⟩) 1 1]] W fun e w' => e = .returned (.tuple #[.int .i64 (k : Int), .int .i64 0]) ∧ Hid ((∃ m, Ct b ra rb m (t + 2) 0 0 0 w w' ∧ k < m ∧ (m = n ∨ m = n + 1 ∧ k = n)) ∧ IdsW w x ids w' ∧ LdW v g w') := by
  obtain ⟨d1, d2⟩ := lay_dN hL.lab
  refine Calls.mono (H.reg2 ht hn hv _ d1 d2) ?_
  rintro e w' ⟨rfl, q⟩
  rcases q.out.1 with ⟨e1, _⟩ | ⟨_, _, k', m, e3, e4, e5, e6⟩
  · exact absurd hz e1
  · obtain rfl : k = k' := by omega
    exact ⟨rfl, ⟨m, e4, e5, e6⟩, ids_kept hI q.out.2, hL.kept q.out.2⟩
theorem stepC (hL : LdW v g W) (hv : v.length ≤ 4611686018427387904) : Calls Tryz.prog 12 #[.agg #[.int .i64 1, .string ⟨#[99]⟩, .string ⟨#[]⟩, .slice (some ⟨g, 0, none⟩) 1 1]] W fun e w' => e = .returned (.int .i64 (La.txE v)) ∧ Hid (Below W.heap.size W w') := by
  obtain ⟨d1, d2⟩ := lay_dN hL.lab
  refine Calls.mono (La.dcheck_any (dN v) _ W d1.at ⟨by show 1 ≤ 4611686018427387904; omega, by show 0 ≤ 4611686018427387904; omega, fun a ha => by rw [List.mem_singleton.1 ha]; exact ⟨by show 1 ≤ 4611686018427387904; omega, hv⟩⟩) ?_
  rintro e w' ⟨rfl, hb⟩
  exact ⟨by rw [chk_dN], hb⟩
end
/-- Where the loop over the names stands. -/
structure N1 (b ra rb i n t : Nat) (ids : List Int) (x : Value) (w W : World) : Prop where
  ct : Ct b ra rb n t 0 0 0 w W
  row : IdsW w x ids W
  t2 : t ≤ 2 + 2 * i
  ni : n ≤ i
  il : ids.length ≤ i
  dst : dstT ids ids.length = n
  lt : ∀ y ∈ ids, ∃ k : Nat, y = (k : Int) ∧ k < n
  all : ∀ k : Nat, k < n → (k : Int) ∈ ids
  em : ids = [] → ∃ g, x = .slice (some ⟨g, 0, none⟩) 0 0
section
variable {b ra rb i n t : Nat} {x : Value} {ids : List Int} {w W W' : World}
theorem N1.no (H : N1 b ra rb i n t ids x w W) (hc : Ct b ra rb n t 0 0 0 w W') (hr : IdsW w x ids W') : N1 b ra rb (i + 1) n t ids x w W' := ⟨hc, hr, by have := H.t2; omega, by have := H.ni; omega, by have := H.il; omega, H.dst, H.lt, H.all, H.em⟩
theorem N1.yes (H : N1 b ra rb i n t ids x w W) {k m : Nat} {x' : Value} (hk : k < m) (hm : m = n ∨ m = n + 1 ∧ k = n) (hc : Ct b ra rb m (t + 2) 0 0 0 w W') (hr : W'.ownsRow w.heap.size 3 1 x' (ids.length + 1) ((ids.map (fun y => Value.int .i64 y)) ++ [.int .i64 (k : Int)])) : N1 b ra rb (i + 1) m (t + 2) (ids ++ [(k : Int)]) x' w W' := by
  have h0 := H.dst
  refine ⟨hc, ?_, by have := H.t2; omega, by have := H.ni; omega, by have := H.il; simp; omega, ?_, fun y hy => ?_, fun j hj => ?_, fun e => by simp at e⟩
  · have e1 : (ids ++ [(k : Int)]).length = ids.length + 1 := by simp
    have e2 : (ids ++ [(k : Int)]).map (fun y => Value.int .i64 y) = (ids.map (fun y => Value.int .i64 y)) ++ [.int .i64 (k : Int)] := by simp
    show W'.ownsRow _ _ _ _ (ids ++ [(k : Int)]).length ((ids ++ [(k : Int)]).map (fun y => Value.int .i64 y))
    rw [e1, e2]
    exact hr
  · rw [dst_snoc, h0]
    rcases hm with rfl | ⟨rfl, rfl⟩
    · rw [if_pos (H.all k hk)]; rfl
    · rw [if_neg (fun h => by obtain ⟨j, e, hj⟩ := H.lt _ h; omega)]
  · rcases List.mem_append.1 hy with hy | hy
    · obtain ⟨j, e, hj⟩ := H.lt y hy
      exact ⟨j, e, by omega⟩
    · exact ⟨k, List.mem_singleton.1 hy, hk⟩
  · rcases hm with rfl | ⟨rfl, rfl⟩
    · exact List.mem_append.2 (Or.inl (H.all j hj))
    · by_cases e : j < k
      · exact List.mem_append.2 (Or.inl (H.all j e))
      · obtain rfl : j = k := by omega
        exact List.mem_append.2 (Or.inr (List.mem_singleton.2 rfl))
end
end Go.Proofs.YtfnohbalkpponaaGreatDoor
/- RegistryCounts: the numbers' own list. Own work of the verifier. -/
namespace Go.Proofs.YtfnohbalkpponaaGreatDoor
open Go.RowKit Go.Maps

/-- A block that has no cells, or whose first is a number, is none of a slab's. -/
theorem SlW.noI {X : SlK} {p n : Nat} {C : Nat → Nat → List Int} {w : World} (H : SlW X p n C w) (hn : 0 < n) {y : Nat} {cs : Array Value} {t : TypeId} {z : Nat × Nat} (hy : w.heap[y]? = some (.cells cs t z)) (ht : t ≠ 90) (hc : cs = #[] ∨ ∃ u, w.cell? ⟨y, 0, none⟩ = some (.int .i64 u)) : ¬ X.Blk y := fun hb => by
  rcases hc with rfl | ⟨u, hc⟩
  · have hno : w.cell? ⟨y, 0, none⟩ = none := by simp [World.cell?, hy]
    rcases hb with rfl | rfl | rfl | rfl | hb
    · rw [H.g.slab] at hno; cases hno
    · obtain ⟨cap, h0⟩ := H.g.held 0 (by decide)
      rw [h0] at hno; cases hno
    · have := H.g.rows 0 (by decide) 0 (by rw [H.g.len 0 (by decide)]; exact hn)
      rw [this] at hno; cases hno
    · have := H.g.rows 1 (by decide) 0 (by rw [H.g.len 1 (by decide)]; exact hn)
      rw [this] at hno; cases hno
    · exact H.g.not_row hy ht hb
  · exact H.no hn hy ht hc rfl hb
section
variable {R : Rg} {I : List InS} {t : Nat} {room : Int} {tv : Value} {rf : Int} {TP : List PV} {D : DataW Unit} {SL : List SlK} {tt : Nat} {C : Nat → Nat → Nat → List Int} {a : Nat} {r0 r1 : Int} {T : List Bool} {w w' : World}
/-- A list of numbers that grows leaves the registry alone. -/
theorem RgA.apart (H : RgA R I t room tv rf TP D SL tt C a r0 r1 T w) {y : Nat} {cs : Array Value} {z : Nat × Nat} (hy : w.heap[y]? = some (.cells cs 3 z)) (hf : cs = #[] ∨ ∃ u, w.cell? ⟨y, 0, none⟩ = some (.int .i64 u)) (hc : Chg (fun x => x = y) w w') : RgA R I t room tv rf TP D SL tt C a r0 r1 T w' := by
  have hn1 := H.reg.n1
  have ty : Typd w (fun x => x = y) [3] := fun x (e : x = y) => by subst e; exact ⟨_, _, _, hy, by simp⟩
  have hR : RgH R I t t room tv rf w' := H.reg.rg.chg hc (by obtain ⟨cs, z, hb⟩ := H.reg.rg.ty; exact ty.no hb (by decide))
  refine ⟨⟨hR, mp_chg H.reg.mp hc (ty.map H.reg.mp), H.reg.md, chg_row hc H.reg.tot (ty.row H.reg.tot (by decide)), H.reg.len, H.reg.t0, H.reg.n1, H.reg.n2, H.reg.p1, H.reg.p2, H.reg.rm⟩, fun y hy => chg_row hc (H.cnt y hy) (ty.row (H.cnt y hy) (by decide)), H.ok, H.sls.chg hc (fun j hj x hx k => ?_), hc.Sh H.sh (ty.no H.sh (by decide)), H.a2, H.i0, H.i1, ?_, fun i hi => ⟨chg_row hc (H.lab i hi).1 (ty.row (H.lab i hi).1 (by decide)), (H.lab i hi).2⟩, cp_chg H.cp hc (ty.no H.cp (by decide)), H.cl⟩
  · subst k
    exact (H.sls.sl j hj).noI (by omega) hy (by decide) hf hx
  · obtain ⟨neg, m, hp, hm⟩ := H.pq
    obtain ⟨s, l0, l1, hp'⟩ := hp.form
    exact ⟨neg, m, hc.Pq hp (ty.no hp' (by decide)), hm⟩
end
section
variable {b ra rb n t tt : Nat} {since all : Int} {w W W' : World}
theorem Ct.apart (H : Ct b ra rb n t tt since all w W) {y : Nat} {cs : Array Value} {z : Nat × Nat} (hy : W.heap[y]? = some (.cells cs 3 z)) (hf : cs = #[] ∨ ∃ u, W.cell? ⟨y, 0, none⟩ = some (.int .i64 u)) (hc : Chg (fun x => x = y) W W') (hB : w.heap.size ≤ y) : Ct b ra rb n t tt since all w W' := by
  obtain ⟨R, I, room, tv, rf, TP, D, SL, C, a, r0, r1, h1, h2, h3⟩ := H
  have ty : Typd W (fun x => x = y) [3] := fun x (e : x = y) => by subst e; exact ⟨_, _, _, hy, by simp⟩
  exact ⟨R, I, room, tv, rf, TP, D, SL, C, a, r0, r1, h1, h2, ⟨h3.n, h3.p, h3.rg.apart hy hf hc, rc_chg h3.xa hc (ty.no h3.xa (by decide)), rc_chg h3.xb hc (ty.no h3.xb (by decide)), h3.rm, h3.ins, h3.off, h3.now, h3.ever, h3.bel.trans (hc.below h3.bel.size (fun x e => e ▸ hB)), h3.fr, h3.fa⟩⟩
theorem Ct.mq (H : Ct b ra rb n t tt since all w W) {since' all' : Int} (h1 : Mq since' since) (h2 : Mq all' all) : Ct b ra rb n t tt since' all' w W := by
  obtain ⟨R, I, room, tv, rf, TP, D, SL, C, a, r0, r1, k1, k2, h3⟩ := H
  exact ⟨R, I, room, tv, rf, TP, D, SL, C, a, r0, r1, k1, k2, ⟨h3.n, h3.p, h3.rg, h3.xa, h3.xb, h3.rm, h3.ins, h3.off, h1.trans h3.now, h2.trans (h3.ever.trans (h1.symm.add (Mq.refl _))), h3.bel, h3.fr, h3.fa⟩⟩
/-- The registry behind an append to the numbers' list. -/
theorem Ct.grown {x : Value} {ids : List Int} (H : Ct b ra rb n t tt since all w W) (hI : IdsW w x ids W) (hem : ids = [] → ∃ g, x = .slice (some ⟨g, 0, none⟩) 0 0) (hg : W.grownBy W' x.ownBlock) : Ct b ra rb n t tt since all w W' := by
  rcases hI.2 with ⟨k, k2⟩ | ⟨g, cap, cur, k, hb, hgg, h3, h4, h5, h6⟩
  · obtain ⟨g, e⟩ := hem (List.length_eq_zero_iff.1 k2)
    rw [e] at k
    cases k
  · have hc : Chg (fun y => y = g) W W' := ⟨hg.os, hg.tape, hg.output, hg.size, fun j hj hn => hg.block j hj (fun e => hn (by rw [k] at e; exact Option.some.inj e))⟩
    refine H.apart hgg ?_ hc hb
    by_cases e : ids = []
    · obtain ⟨g', q2⟩ := hem e
      rw [q2] at k
      injection k with k1 k2 k3
      left
      apply Array.eq_empty_of_size_eq_zero
      rw [h5, ← k3]
    · right
      obtain ⟨y, ids', rfl⟩ := List.exists_cons_of_ne_nil e
      refine ⟨y, ?_⟩
      have h0 : cur[0]? = some (.int .i64 y) := by
        have := congrArg (fun l : List Value => l[0]?) h6
        simpa [List.getElem?_take] using this
      unfold World.cell?
      simp only [hgg]
      simpa using h0
end
end Go.Proofs.YtfnohbalkpponaaGreatDoor
/- RegistryCounts: the walk, the names. Own work of the verifier. -/
namespace Go.Proofs.YtfnohbalkpponaaGreatDoor
open Go.RowKit Go.Maps

theorem infoInt15 : (Tryz.prog.info? 3).map (fun i => (i.zero, i.size, i.bytes)) = some (some (.int .i64 0), 1, 8) := by kernel_rfl
theorem own_len15 {W : World} {B n : Nat} {e : TypeId} {v : Value} {xs : List Value} (h : W.ownsRow B e 1 v n xs) : ∃ mo cap, v = .slice mo n cap := by
  rcases h.2 with ⟨k, k2⟩ | ⟨g, cap, cur, k, _⟩
  · exact ⟨none, 0, by rw [k, k2]⟩
  · exact ⟨_, cap, k⟩
theorem ids_at {w W : World} {mo : Option Addr} {mc : Nat} {ids : List Int} (h : IdsW w (.slice mo ids.length mc) ids W) : ∃ g, (ids ≠ [] → mo = some ⟨g, 0, none⟩) ∧ ∀ W', IdsW w (.slice mo ids.length mc) ids W' → ∀ i, i < ids.length → W'.cell? ⟨g, i, none⟩ = some (.int .i64 (ids.getD i 0)) := by
  rcases h.2 with ⟨k, k2⟩ | ⟨g, cap, cur, k, _⟩
  · exact ⟨0, fun h => absurd (List.length_eq_zero_iff.1 k2) h, fun W' _ i hi => by omega⟩
  · injection k with k1
    refine ⟨g, fun _ => k1, fun W' h' i hi => ?_⟩
    rcases h'.2 with ⟨q, q2⟩ | ⟨g', cap', cur', q, _, hg, _, _, _, htk⟩
    · omega
    · injection q with q1
      rw [k1] at q1
      injection q1 with q1
      injection q1 with q1
      subst q1
      have e3 : cur'[i]? = some (.int .i64 (ids.getD i 0)) := by
        have h0 := congrArg (fun l : List Value => l[i]?) htk
        simp only [List.getElem?_take, List.getElem?_map] at h0
        rw [if_pos (by omega), List.getElem?_eq_getElem hi] at h0
        rw [getD_eq ids 0 i hi]
        simpa using h0
      unfold World.cell?
      simp only [hg]
      simpa using e3
theorem vs_slice {W : World} {B : Nat} {u : Value} {S : List VV} (h : VsW W B u S) : ∃ a c, u = .slice a S.length c := by
  rcases h.row.2 with ⟨k, k2⟩ | ⟨g, cap, cur, k, _⟩
  · exact ⟨none, 0, by rw [k, k2]⟩
  · exact ⟨_, _, k⟩
theorem fldS (p : Int) (a : Option Addr) (m c : Nat) (r : Int) (W : World) : (Instr.field 62 (.agg #[.int .i64 p, .slice a m c, .int .u64 r]) 1).run Tryz.prog W = .ok (.slice a m c) W := by kernel_rfl
theorem mqA (s m : Int) : Mq (IntKind.u64.wrap (s + IntKind.u64.wrap m)) (s + m) := by unfold Mq; rw [IntKind.wrap_u64, IntKind.wrap_u64]; omega
theorem mqB (s m : Int) : Mq (IntKind.u64.wrap (s + m)) (s + m) := by unfold Mq; rw [IntKind.wrap_u64]; omega
theorem wrapB (s : Int) : 0 ≤ IntKind.u64.wrap s ∧ IntKind.u64.wrap s < 18446744073709551616 := by rw [IntKind.wrap_u64]; omega
theorem own_int15 (W : World) (B : Nat) (hB : B ≤ W.heap.size) : (W.alloc (.cells #[] 3)).ownsRow B 3 1 (.slice (some ⟨W.heap.size, 0, none⟩) 0 0) 0 [] := ⟨rfl, .inr ⟨W.heap.size, 0, #[], rfl, hB, new_1 W _, Nat.le_refl _, by decide, rfl, rfl⟩⟩
set_option maxRecDepth 100000 in
set_option maxHeartbeats 8000000 in
theorem counts_walk (N : List (List UInt8)) (na : Option Addr) (nb no nc : Nat) (A : List (Int × Int)) (aa : Option Addr) (ab ao ac : Nat) (w : World) (hna : N ≠ [] → na = some ⟨nb, no, none⟩) (hN : ∀ i (hi : i < N.length), w.cell? ⟨nb, no + i, none⟩ = some (.string ⟨N[i].toArray⟩) ∧ N[i].length ≤ 4611686018427387904) (haa : A ≠ [] → aa = some ⟨ab, ao, none⟩)
    (hA : ∀ i (hi : i < A.length), w.cell? ⟨ab, ao + i * 2, none⟩ = some (.int .i64 A[i].1) ∧ w.cell? ⟨ab, ao + i * 2 + 1, none⟩ = some (.int .i64 A[i].2)) (hl : N.length ≤ 17592186044416) (hl2 : A.length ≤ 17592186044416) :
    Calls Tryz.prog 4 #[.slice na N.length nc, .slice aa A.length ac] w fun e w' => e = .returned (.bool true) ∧ Below w.heap.size w w' := by
  have HW : Hid (∀ _ : Unit, _) := fun _ => rawake_any w
  have H1 : Hid (∀ W, Below w.heap.size w W → _) := fun W h => cn_new (w := w) (W := W) h
  have H2 : Hid (∀ b W, Cn0 b w W → _) := fun b W h => cn_rec1 h
  have H3 : Hid (∀ b ra W, Cn1 b ra w W → _) := fun b ra W h => cn_rec2 h
  have HNa := hidO hna
  have HNn := hidO hN
  have HAa := hidO haa
  have HAn := hidO hA
  obtain ⟨j0, hj0, hy0, hy1, hy2⟩ := info_parts infoInt15
  clear hna hN haa hA
  go_enter Tryz.func4, Tryz.ntmps4
  go_wp2_with (first
    | (go_at_call 5; with_reducible refine Calls.mono (HW.out ()) ?_; rintro e w1 ⟨rfl, B1⟩)
    | (go_at_call 6; with_reducible refine Calls.mono (H1.out _ B1.out) ?_; rintro e w2 ⟨b, rfl, C2⟩)
    | (go_at_call 10; with_reducible refine Calls.mono (H2.out _ _ C2.out) ?_; rintro e w3 ⟨ra, rfl, C3⟩; clear C2)
    | (go_at_call 10; with_reducible refine Calls.mono (H3.out _ _ _ C3.out) ?_; rintro e w4 ⟨rb, rfl, C4⟩))
  have HM0 : Hid (N1 b ra rb 0 0 2 [] (.slice (some ⟨w4.heap.size, 0, none⟩) 0 0) w (w4.alloc (.cells #[] 3))) := ⟨C4.out.below (bel1 _ _), own_int15 w4 _ C4.out.bel.size, by omega, by omega, Nat.le_refl _, rfl, fun y hy => (by cases hy), fun k hk => absurd hk (Nat.not_lt_zero _), fun _ => ⟨_, rfl⟩⟩
  clear C3 C4 H1 H2 H3 HW B1
  go_loopw [10, 11] (fun m c wr => ∃ (i n t : Nat) (ids : List Int), i ≤ N.length ∧ i ≤ 200 ∧ c = .int .i64 (i : Int) ∧ Hid (N1 b ra rb i n t ids m w wr)) (fun _ c _ => N.length - (intOf c).toNat)
  case atStart => exact ⟨0, 0, 2, [], by omega, by omega, rfl, HM0.out⟩
  case round =>
    obtain ⟨i, n, t, ids, hi, hi2, rfl, HM⟩ := hrel
    obtain ⟨mo, mc, hm⟩ := own_len15 HM.out.row
    subst hm
    by_cases hcond : i < N.length ∧ i < 200
    · obtain ⟨hlt, hlt2⟩ := hcond
      have hlt' : (i : Int) < (N.length : Int) := by omega
      have hlt2' : (i : Int) < 200 := by omega
      obtain rfl := HNa.out (by intro e; rw [e] at hlt; simp at hlt)
      obtain ⟨hc0, hv0⟩ := HNn.out i hlt
      have hcw := (HM.out.ct.bel.cell (p := ⟨nb, no + i, none⟩) (lt_of_cell hc0)).trans hc0
      have HV := hidO hv0
      clear hc0 hv0
      generalize N[i] = v at *
      have HB2 := hidO (bel2 wr (.cells #[.string ⟨#[110]⟩, .string ⟨v.toArray⟩] 54) (.cells #[.int .i64 1, .string ⟨#[99]⟩, .string ⟨#[]⟩, .slice (some ⟨wr.heap.size, 0, none⟩) 1 1] 41))
      have HL0 : Hid (LdW v wr.heap.size ((wr.alloc (.cells #[.string ⟨#[110]⟩, .string ⟨v.toArray⟩] 54)).alloc (.cells #[.int .i64 1, .string ⟨#[99]⟩, .string ⟨#[]⟩, .slice (some ⟨wr.heap.size, 0, none⟩) 1 1] 41))) := ⟨Pr.new1 wr _ _, Pr.new2 wr _ _⟩
      obtain ⟨z0, z1, z2, z3⟩ := HL0.out.cells
      have HS0 := hidO (And.intro (HM.out.ct.below HB2.out) (And.intro (ids_kept HM.out.row (KeptR.of_below HB2.out)) HL0.out))
      have HT : Hid (t + 1 < 4611686018427387904 ∧ n < 249) := ⟨by have := HM.out.t2; omega, by have := HM.out.ni; omega⟩
      have HLn : Hid (ids.length ≤ 200) := by have := HM.out.il; unfold Hid; omega
      by_cases hz : La.txE v = 0
      · have HB1 : Hid (∀ _ : Unit, _) := fun _ => stepB1 (x := .slice mo ids.length mc) HS0.out.1 HS0.out.2.1 HS0.out.2.2 (by have := HT.out; omega) HT.out.2 HV.out hz
        have HR2 : Hid (∀ (k : Nat) (W : World), Ct1 v b ra rb n t (k : Int) 0 w W ∧ IdsW w (.slice mo ids.length mc) ids W ∧ LdW v wr.heap.size W → _) := fun k W h => stepB2 (k := k) h.1 h.2.1 h.2.2 HT.out.1 HT.out.2 HV.out hz
        have HCk : Hid (∀ W, LdW v wr.heap.size W → Calls Tryz.prog 12 #[.agg #[.int .i64 1, .string ⟨#[99]⟩, .string ⟨#[]⟩, .slice (some ⟨wr.heap.size, 0, none⟩) 1 1]] W fun e w' => e = .returned (.int .i64 0) ∧ Hid (Below W.heap.size W w')) := fun W h => by
          have := stepC h HV.out
          rw [hz] at this
          exact this
        clear HB2 HL0 hz
        go_wp2_with (first
          | (go_at_call 11; with_reducible refine Calls.mono (HB1.out ()) ?_; rintro e w5 ⟨k, rfl, H5⟩; obtain ⟨p0, p1, p2, p3⟩ := H5.out.2.2.cells)
          | (go_at_call 11; with_reducible refine Calls.mono (HR2.out _ _ H5.out) ?_; rintro e w6 ⟨rfl, H6⟩; obtain ⟨q0, q1, q2, q3⟩ := H6.out.2.2.cells)
          | (go_at_call 12; with_reducible refine Calls.mono (HCk.out _ H6.out.2.2) ?_; rintro e w7 ⟨rfl, H7⟩)
          | (at_builtin; refine wpList_append_own _ rfl _ _ 52 rfl w.heap.size 3 j0 (.int .i64 0) 1 8 Tryz.underlying52 hj0 hy0 hy1 hy2 rfl (by decide) (.slice mo ids.length mc) ids.length (ids.map fun y => .int .i64 y) rfl ((ids_kept H6.out.2.1 (KeptR.of_below H7.out)).alloc _) ⟨w7.heap.size, 0, none⟩ 1 1 [.int .i64 (k : Int)] rfl rfl (World.news_of_block (cs := #[.int .i64 (k : Int)]) (new_1 w7 _)) (by simp [Value.oneCell']) (by have := HLn.out; unfold maxLen; omega) (by have := HLn.out; omega) (by obtain ⟨_, hc6, _⟩ := H6.out.1; have := hc6.bel.size; have := H7.out.size; simp; omega) ?_; intro mv' w8 own8 gr8 hn8; obtain ⟨m', hc6, hk6, hm6⟩ := H6.out.1; have HPs := hidO (N1.yes HM.out hk6 hm6 (Ct.grown ((hc6.below H7.out).below (bel1 w7 _)) ((ids_kept H6.out.2.1 (KeptR.of_below H7.out)).alloc _) HM.out.em gr8) own8)))
        exact ⟨⟨i + 1, _, _, _, by omega, by omega, by simp, HPs.out⟩, by simp [intOf]; omega⟩
      · have HA1 : Hid (∀ _ : Unit, _) := fun _ => stepA (x := .slice mo ids.length mc) HS0.out.1 HS0.out.2.1 HS0.out.2.2 (by have := HT.out; omega) HT.out.2 HV.out hz
        have HA2 : Hid (∀ (W : World), Ct b ra rb n t 0 0 0 w W ∧ IdsW w (.slice mo ids.length mc) ids W ∧ LdW v wr.heap.size W → _) := fun W h => stepA h.1 h.2.1 h.2.2 (by have := HT.out; omega) HT.out.2 HV.out hz
        have HCk : Hid (∀ W, LdW v wr.heap.size W → _) := fun W h => stepC h HV.out
        have hz1 : (La.txE v == 0) = false := by simpa using hz
        clear HB2 HL0
        generalize La.txE v = z at *
        go_wp2_with (first
          | (go_at_call 11; with_reducible refine Calls.mono (HA1.out ()) ?_; rintro e w5 ⟨rfl, H5⟩; obtain ⟨p0, p1, p2, p3⟩ := H5.out.2.2.cells)
          | (go_at_call 11; with_reducible refine Calls.mono (HA2.out _ H5.out) ?_; rintro e w6 ⟨rfl, H6⟩; obtain ⟨q0, q1, q2, q3⟩ := H6.out.2.2.cells)
          | (go_at_call 12; with_reducible refine Calls.mono (HCk.out _ H6.out.2.2) ?_; rintro e w7 ⟨rfl, H7⟩))
        exact ⟨⟨i + 1, n, t, ids, by omega, by omega, by simp, HM.out.no (H6.out.1.below H7.out) (ids_kept H6.out.2.1 (KeptR.of_below H7.out))⟩, by simp [intOf]; omega⟩
    · go_upto_region 12 with fail
      go_cut [70] from 63 to 69 (fun v W => v = .bool false ∧ W = wr)
      case first =>
        by_cases hlt : i < N.length
        · have hlt' : (i : Int) < (N.length : Int) := by omega
          have hf' : ¬ (i : Int) < 200 := by omega
          go_wp2_with fail
          go_meet
          exact ⟨rfl, rfl⟩
        · have hlt' : ¬ (i : Int) < (N.length : Int) := by omega
          go_wp2_with fail
          go_meet
          exact ⟨rfl, rfl⟩
      case rest =>
        obtain ⟨rfl, rfl⟩ := hcut
        obtain ⟨g, hmo, hat⟩ := ids_at HM.out.row
        have HMo := hidO hmo
        have HAt := hidO hat
        have HLn : Hid (ids.length ≤ 200) := by have := HM.out.il; unfold Hid; omega
        have HDi : Hid (∀ _ : Unit, Calls Tryz.prog 13 #[.slice mo ids.length mc] wc fun e w' => e = .returned (.int .i64 (n : Int)) ∧ Hid (Below wc.heap.size wc w')) := fun _ => by
          have := distinct15_any ids mo g mc wc hmo (fun i hi => hat wc HM.out.row i hi) (by have := HLn.out; omega)
          rw [HM.out.dst] at this
          exact this
        have HTo : Hid (∀ w', Below wc.heap.size wc w' → Calls Tryz.prog 14 #[.pointer (some ⟨b, 0, none⟩), .pointer none] w' fun e w'' => ∃ (ua : Option Addr) (uc : Nat) (r : Int), e = .returned (.agg #[.int .i64 1, .slice ua n uc, .int .u64 r]) ∧ Hid (Ct b ra rb n (t + 1) 0 0 0 w w'' ∧ IdsW w (.slice mo ids.length mc) ids w'')) := fun w' hb => by
          refine Calls.mono ((HM.out.ct.below hb).totals (by have := HM.out.t2; omega)) ?_
          rintro e w'' ⟨u, r, S, rfl, q⟩
          obtain ⟨q1, q2, q3, q4, q5⟩ := q.out
          obtain ⟨ua, uc, rfl⟩ := vs_slice q1
          exact ⟨ua, uc, r, by rw [q2], q4, ids_kept (ids_kept HM.out.row (KeptR.of_below hb)) q5⟩
        clear hmo hat
        go_wp2_with (first
          | (go_at_call 13; with_reducible refine Calls.mono (HDi.out ()) ?_; rintro e w5 ⟨rfl, H5⟩)
          | (go_at_call 14; with_reducible refine Calls.mono (HTo.out _ H5.out) ?_; rintro e w6 ⟨ua, uc, r, rfl, H6⟩; have hfl := fldS 1 ua n uc r w6))
        go_loopw [18, 19, 20] (fun al si c wr => ∃ (j t' tt : Nat) (al' si' : Int), j ≤ A.length ∧ c = .int .i64 (j : Int) ∧ al = .int .u64 al' ∧ si = .int .u64 si' ∧ Hid (Ct b ra rb n t' tt si' al' w wr ∧ IdsW w (.slice mo ids.length mc) ids wr ∧ t' ≤ 500 + j ∧ tt ≤ j ∧ (0 ≤ si' ∧ si' < 18446744073709551616) ∧ (0 ≤ al' ∧ al' < 18446744073709551616))) (fun _ _ c _ => A.length - (intOf c).toNat)
        case atStart => exact ⟨0, t + 1, 0, 0, 0, by omega, rfl, rfl, rfl, H6.out.1, H6.out.2, by have := HM.out.t2; omega, by omega, by omega, by omega⟩
        case round =>
          obtain ⟨j, t', tt, al', si', hj, rfl, rfl, rfl, HK⟩ := hrel
          have HT2 : Hid (t' < 4611686018427387904 ∧ tt + 1 < 70368744177664) := ⟨by have := HK.out.2.2.1; omega, by have := HK.out.2.2.2.1; omega⟩
          have HRs : Hid (∀ _ : Unit, Calls Tryz.prog 17 #[.pointer (some ⟨b, 0, none⟩), .pointer none] wr fun e w' => ∃ (u : Value) (r : Int) (S : List VV), e = .returned (.agg #[.int .i64 1, u, .int .u64 r]) ∧ Hid (VsW w' wr.heap.size u S ∧ S.length = n ∧ loS S = si' ∧ Ct b ra rb n (t' + 1) tt 0 al' w w' ∧ IdsW w (.slice mo ids.length mc) ids w')) := fun _ => by
            refine Calls.mono (HK.out.1.reset HT2.out.1) ?_
            rintro e w' ⟨u, r, S, rfl, q⟩
            obtain ⟨q1, q2, q3, q4, q5⟩ := q.out
            exact ⟨u, r, S, rfl, q1, q2, q3.trans (by have := HK.out.2.2.2.2.1; omega), q4, ids_kept HK.out.2.1 q5⟩
          have HTt : Hid (∀ (W : World) (u : Value) (r : Int) (S : List VV) (B : Nat), VsW W B u S → S.length = n → _) := fun W u r S B h hS => total15_any 1 r u S B W h (by have := HM.out.ni; omega)
          by_cases hlt : j < A.length
          · have hlt' : (j : Int) < (A.length : Int) := by omega
            obtain rfl := HAa.out (by intro e; rw [e] at hlt; simp at hlt)
            obtain ⟨hc1, hc2⟩ := HAn.out j hlt
            have d1 := (HK.out.1.bel.cell (p := ⟨ab, ao + j * 2, none⟩) (lt_of_cell hc1)).trans hc1
            have d2 := (HK.out.1.bel.cell (p := ⟨ab, ao + j * 2 + 1, none⟩) (lt_of_cell hc2)).trans hc2
            clear hc1 hc2
            generalize A[j].1 = y1 at *
            generalize A[j].2 = y2 at *
            have HP1 : Hid (∀ W : World, Calls Tryz.prog 15 #[.int .i64 y2, .int .i64 1073741824] W fun e w' => ∃ i : Nat, e = .returned (.int .i64 (i : Int)) ∧ i < 1073741824 ∧ w' = W) := fun W => pick15_any y2 1073741824 (by decide) (by decide) W
            by_cases hr : ids.length = 0
            · have hr' : ((ids.length : Int) == 0) = true := by simp [hr]
              clear hr
              go_wp2_with (first
                | (go_at_call 15; with_reducible refine Calls.mono (HP1.out _) ?_; rintro e w7 ⟨m, rfl, hm, rfl⟩)
                | (go_at_call 17; with_reducible refine Calls.mono (HRs.out ()) ?_; rintro e w7 ⟨u, r7, S, rfl, H7⟩; have hS7 := hidO H7.out.2.2.1)
                | (go_at_call 16; with_reducible refine Calls.mono (HTt.out _ _ _ _ _ H7.out.1 H7.out.2.1) ?_; rintro e w8 ⟨rfl, H8⟩; rw [hS7.out]))
              exact ⟨⟨j + 1, t' + 1, tt, al', 0, by omega, by simp, rfl, rfl, H7.out.2.2.2.1.below H8.out, ids_kept H7.out.2.2.2.2 (KeptR.of_below H8.out), by have := HK.out.2.2.1; omega, by have := HK.out.2.2.2.1; omega, by omega, HK.out.2.2.2.2.2⟩, by simp [intOf]; omega⟩
            · have hr' : ((ids.length : Int) == 0) = false := beq_eq_false_iff_ne.2 (by omega)
              have HR0 : Hid (0 < ids.length) := by unfold Hid; omega
              clear hr
              by_cases h5 : y1.tmod 5 = 0
              · have h5' : (y1.tmod 5 == 0) = true := by simp [h5]
                clear h5
                obtain rfl := HMo.out (by intro e; have := HR0.out; rw [e] at this; simp at this)
                go_wp2_with (first
                  | (go_at_call 15; with_reducible refine Calls.mono (HP1.out _) ?_; rintro e w7 ⟨m, rfl, hm, rfl⟩)
                  | (go_at_call 17; with_reducible refine Calls.mono (HRs.out ()) ?_; rintro e w7 ⟨u, r7, S, rfl, H7⟩; have hS7 := hidO H7.out.2.2.1)
                  | (go_at_call 16; with_reducible refine Calls.mono (HTt.out _ _ _ _ _ H7.out.1 H7.out.2.1) ?_; rintro e w8 ⟨rfl, H8⟩; rw [hS7.out]))
                exact ⟨⟨j + 1, t' + 1, tt, al', 0, by omega, by simp, rfl, rfl, H7.out.2.2.2.1.below H8.out, ids_kept H7.out.2.2.2.2 (KeptR.of_below H8.out), by have := HK.out.2.2.1; omega, by have := HK.out.2.2.2.1; omega, by omega, HK.out.2.2.2.2.2⟩, by simp [intOf]; omega⟩
              · have h5' : (y1.tmod 5 == 0) = false := beq_eq_false_iff_ne.2 h5
                clear h5
                obtain rfl := HMo.out (by intro e; have := HR0.out; rw [e] at this; simp at this)
                have HP2 : Hid (∀ W : World, _) := fun W => pick15_any y1 ids.length HR0.out (by have := HLn.out; omega) W
                have HId : Hid (∀ q, q < ids.length → ∃ k : Nat, k < n ∧ wr.cell? ⟨g, q, none⟩ = some (.int .i64 (k : Int))) := fun q hq => by
                  obtain ⟨k, hk, hkn⟩ := HM.out.lt (ids.getD q 0) (by rw [getD_eq ids 0 q hq]; exact List.getElem_mem hq)
                  exact ⟨k, hkn, by rw [HAt.out wr HK.out.2.1 q hq, hk]⟩
                have HAd : Hid (∀ (k m rc : Nat), k < n → m < 1073741824 → (rc = ra ∨ rc = rb) → Calls Tryz.prog 18 #[.pointer (some ⟨b, 0, none⟩), .pointer none, .pointer (some ⟨rc, 0, none⟩), .int .i64 (k : Int), .int .i64 (m : Int)] wr fun e w' => e = .returned (.int .i64 0) ∧ Hid (Ct b ra rb n t' (tt + 1) (si' + (m : Int)) (al' + (m : Int)) w w' ∧ KeptR wr w')) := fun k m rc hk hm hx => HK.out.1.add hk (m : Int) ⟨by omega, by omega⟩ HT2.out.2 hx
                go_wp2_with (first
                  | (go_at_call 15; with_reducible refine Calls.mono (HP1.out _) ?_; rintro e w7 ⟨m, rfl, hm, rfl⟩)
                  | (go_at_call 15; with_reducible refine Calls.mono (HP2.out _) ?_; rintro e w7 ⟨q, rfl, hq, rfl⟩; obtain ⟨k, hk, dq⟩ := HId.out q hq)
                  | (go_at_call 18; with_reducible refine Calls.mono (HAd.out _ _ ra hk hm (Or.inl rfl)) ?_; rintro e w8 ⟨rfl, H8⟩)
                  | (go_at_call 18; with_reducible refine Calls.mono (HAd.out _ _ rb hk hm (Or.inr rfl)) ?_; rintro e w8 ⟨rfl, H8⟩))
                all_goals exact ⟨⟨j + 1, t', tt + 1, _, _, by omega, by simp, rfl, rfl, H8.out.1.mq (by first | exact mqA _ _ | exact mqB _ _) (by first | exact mqA _ _ | exact mqB _ _), ids_kept HK.out.2.1 H8.out.2, by have := HK.out.2.2.1; omega, by have := HK.out.2.2.2.1; omega, wrapB _, wrapB _⟩, by simp [intOf]; omega⟩
          · have hlt' : ¬ (j : Int) < (A.length : Int) := by omega
            have HTo2 : Hid (∀ W, Ct b ra rb n (t' + 1) tt 0 al' w W → Calls Tryz.prog 14 #[.pointer (some ⟨b, 0, none⟩), .pointer none] W fun e w' => ∃ (u : Value) (r : Int) (S : List VV), e = .returned (.agg #[.int .i64 1, u, .int .u64 r]) ∧ Hid (VsW w' W.heap.size u S ∧ S.length = n ∧ loS S = al' ∧ Ct b ra rb n (t' + 2) tt 0 al' w w')) := fun W h => by
              refine Calls.mono (h.totals (by have := HK.out.2.2.1; omega)) ?_
              rintro e w' ⟨u, r, S, rfl, q⟩
              obtain ⟨q1, q2, q3, q4, q5⟩ := q.out
              exact ⟨u, r, S, rfl, q1, q2, q3.trans (by have := HK.out.2.2.2.2.2; omega), q4⟩
            have HRs2 : Hid (∀ W, Ct b ra rb n (t' + 2) tt 0 al' w W → Calls Tryz.prog 17 #[.pointer (some ⟨b, 0, none⟩), .pointer none] W fun e w' => ∃ (u : Value) (r : Int) (S : List VV), e = .returned (.agg #[.int .i64 1, u, .int .u64 r]) ∧ Hid (VsW w' W.heap.size u S ∧ S.length = n ∧ loS S = 0 ∧ Below w.heap.size w w')) := fun W h => by
              refine Calls.mono (h.reset (by have := HK.out.2.2.1; omega)) ?_
              rintro e w' ⟨u, r, S, rfl, q⟩
              obtain ⟨q1, q2, q3, q4, q5⟩ := q.out
              exact ⟨u, r, S, rfl, q1, q2, q3.trans (by omega), q4.bel⟩
            go_wp2_with (first
              | (go_at_call 17; with_reducible refine Calls.mono (HRs.out ()) ?_; rintro e w7 ⟨u, r7, S, rfl, H7⟩; have hS7 := hidO H7.out.2.2.1)
              | (go_at_call 16; with_reducible refine Calls.mono (HTt.out _ _ _ _ _ H7.out.1 H7.out.2.1) ?_; rintro e w8 ⟨rfl, H8⟩; rw [hS7.out])
              | (go_at_call 14; with_reducible refine Calls.mono (HTo2.out _ (H7.out.2.2.2.1.below H8.out)) ?_; rintro e w9 ⟨u9, r9, S9, rfl, H9⟩; have hS9 := hidO H9.out.2.2.1)
              | (go_at_call 16; with_reducible refine Calls.mono (HTt.out _ _ _ _ _ H9.out.1 H9.out.2.1) ?_; rintro e wa ⟨rfl, Ha⟩; rw [hS9.out])
              | (go_at_call 17; with_reducible refine Calls.mono (HRs2.out _ (H9.out.2.2.2.below Ha.out)) ?_; rintro e wb ⟨ub, rb', Sb, rfl, Hb⟩; have hSb := hidO Hb.out.2.2.1)
              | (go_at_call 16; with_reducible refine Calls.mono (HTt.out _ _ _ _ _ Hb.out.1 Hb.out.2.1) ?_; rintro e wd ⟨rfl, Hd⟩; rw [hSb.out]))
            go_ret
            exact ⟨rfl, bt Hb.out.2.2.2 Hd.out⟩
end Go.Proofs.YtfnohbalkpponaaGreatDoor
