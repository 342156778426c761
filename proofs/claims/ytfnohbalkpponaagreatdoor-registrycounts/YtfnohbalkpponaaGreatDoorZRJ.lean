/- THE REGISTRY, all of it. Own work of the verifier. -/
import Derived.Test.YtfnohbalkpponaaGreatDoorZRI
namespace Go.Proofs.YtfnohbalkpponaaGreatDoor
open Go.RowKit Go.Maps

/-- All of S are blocks of cells of these types. -/
def Typd (w : World) (S : Nat → Prop) (Ts : List TypeId) : Prop := ∀ x, S x → ∃ cs T z, w.heap[x]? = some (.cells cs T z) ∧ T ∈ Ts
theorem Typd.no {w : World} {S : Nat → Prop} {Ts : List TypeId} (h : Typd w S Ts) {x : Nat} {cs : Array Value} {T : TypeId} {z : Nat × Nat} (hx : w.heap[x]? = some (.cells cs T z)) (hT : T ∉ Ts) : ¬ S x := fun k => by
  obtain ⟨cs', T', z', h1, h2⟩ := h x k
  rw [hx] at h1
  injection h1 with h1
  injection h1 with _ h1
  rw [h1] at hT
  exact hT h2
theorem Typd.row {w : World} {S : Nat → Prop} {Ts : List TypeId} (h : Typd w S Ts) {B : Nat} {e : TypeId} {s n : Nat} {v : Value} {xs : List Value} (ho : w.ownsRow B e s v n xs) (hT : e ∉ Ts) : ∀ x, v.ownBlock = some x → ¬ S x := fun x hx => by
  obtain ⟨cs, hg⟩ := own_blk ho hx
  exact h.no hg hT
theorem Typd.map {w : World} {S : Nat → Prop} {Ts : List TypeId} (h : Typd w S Ts) {mp n : Nat} {D : DataW Unit} (hM : MpW w mp n D) : ¬ S mp := fun k => by
  obtain ⟨cs', T', z', h1, _⟩ := h mp k
  obtain ⟨es, ck, hm, _⟩ := hM
  rw [h1] at hm
  cases hm
theorem mp_chg {w w' : World} {S : Nat → Prop} {mp n : Nat} {D : DataW Unit} (hM : MpW w mp n D) (hc : Chg S w w') (hS : ¬ S mp) : MpW w' mp n D := by
  obtain ⟨es, ck, hm, rest⟩ := hM
  exact ⟨es, ck, hc.at_ hm hS, rest⟩
theorem ownL_slb {B : Nat} {v : Value} {L : List (List UInt8 × List UInt8)} {W : World} (h : Va.OwnL B v L W) : Va.SLb W v L := by
  rcases h.2 with ⟨k, k2⟩ | ⟨g, cap, cur, k, hb, hg, h3, h4, h5, h6⟩
  · exact Or.inl ⟨k, List.length_eq_zero_iff.1 k2⟩
  · refine Or.inr ⟨g, 0, cap, k, h3, fun i hi => ?_⟩
    obtain ⟨f1, f2⟩ := Va.flL_get L i hi
    have hlen : (Va.flL L).length = L.length * 2 := Va.flL_length L
    have e : ∀ j u, (Va.flL L)[j]? = some u → W.cell? ⟨g, j, none⟩ = some u := fun j u hu => by
      have hj : j < L.length * 2 := by rw [← hlen]; exact (List.getElem?_eq_some_iff.1 hu).1
      rw [← h6, List.getElem?_take, if_pos hj] at hu
      unfold World.cell?
      simp only [hg]
      simpa using hu
    rw [Nat.zero_add]
    exact ⟨e _ _ f1, e _ _ f2⟩
/-- A registry, all of it. -/
structure RgA (R : Rg) (I : List InS) (t : Nat) (room : Int) (tv : Value) (rf : Int) (TP : List PV) (D : DataW Unit) (SL : List SlK) (tt : Nat) (C : Nat → Nat → Nat → List Int) (a : Nat) (r0 r1 : Int) (T : List Bool) (w : World) : Prop where
  reg : RegS R I t room tv rf TP D w
  cnt : ∀ x ∈ TP, PvW w 0 x
  ok : ∀ x ∈ TP, x.P.Ok 1048576
  sls : SlS R I SL tt C w
  sh : Sh w R.k R.ph a r0 r1
  a2 : a < 2
  i0 : In64 r0
  i1 : In64 r1
  pq : ∃ neg m, Pq w R.ph neg m ∧ m ≤ tt
  lab : ∀ i (hi : i < I.length), Va.OwnL 0 (.slice I[i].la I[i].D.length I[i].lc) I[i].D w ∧ I[i].D.length ≤ 1048576
  cp : Po.CP w R.fb T
  cl : T.length = R.n
section
variable {R : Rg} {I : List InS} {t : Nat} {room : Int} {tv : Value} {rf : Int} {TP : List PV} {D : DataW Unit} {SL : List SlK} {tt : Nat} {C : Nat → Nat → Nat → List Int} {a : Nat} {r0 r1 : Int} {T : List Bool} {w w' : World}
theorem RgA.ps (H : RgA R I t room tv rf TP D SL tt C a r0 r1 T w) : PsW w 0 tv TP := ⟨H.reg.tot, H.cnt⟩
theorem RgA.hkp (H : RgA R I t room tv rf TP D SL tt C a r0 r1 T w) : R.ph ≠ R.k := by
  obtain ⟨neg, m, hp, _⟩ := H.pq
  exact sh_ne_pq H.sh hp
theorem RgA.hap (H : RgA R I t room tv rf TP D SL tt C a r0 r1 T w) : ∀ j (hj : j < SL.length) x, SL[j].Blk x → x ≠ R.k ∧ x ≠ R.ph := fun j hj x hx => by
  have n1 := H.reg.n1
  refine ⟨fun e => ?_, fun e => ?_⟩
  · subst e
    exact (H.sls.sl j hj).no (by omega) H.sh (by decide) H.sh.cells.1 rfl hx
  · subst e
    obtain ⟨neg, m, hp, _⟩ := H.pq
    obtain ⟨s, l0, l1, hp⟩ := hp.form
    exact (H.sls.sl j hj).no (by omega) hp (by decide) hp.cells.1 rfl hx
theorem RgA.hrb (H : RgA R I t room tv rf TP D SL tt C a r0 r1 T w) : ∀ j (hj : j < SL.length), ¬ SL[j].Blk R.b := fun j hj hx => by
  have n1 := H.reg.n1
  obtain ⟨cs, z, hb⟩ := H.reg.rg.ty
  exact (H.sls.sl j hj).no (by omega) hb (by decide) H.reg.rg.c0 rfl hx
theorem typ_rb {nx sv : Nat} (h : RgH R I nx sv room tv rf w) : Typd w (fun y => y = R.b) [97] := fun x e => by
  obtain ⟨cs, z, hb⟩ := h.ty
  have e : x = R.b := e
  subst e
  exact ⟨cs, _, z, hb, by simp⟩
theorem typ_gb (H : SlS R I SL tt C w) : Typd w (GB SL) [90] := fun x ⟨j, hj, hm⟩ => by
  rcases List.mem_append.1 hm with hm | hm
  · obtain ⟨i, hi, e⟩ := List.getElem_of_mem hm
    have := (H.sl j hj).g.left 0 (by decide) i hi
    unfold RowW at this
    rw [e] at this
    exact ⟨_, _, _, this, by simp⟩
  · obtain ⟨i, hi, e⟩ := List.getElem_of_mem hm
    have := (H.sl j hj).g.left 1 (by decide) i hi
    unfold RowW at this
    rw [e] at this
    exact ⟨_, _, _, this, by simp⟩
theorem Typd.or {w : World} {S S' : Nat → Prop} {Ts Ts' : List TypeId} (h : Typd w S Ts) (k : Typd w S' Ts') : Typd w (fun x => S x ∨ S' x) (Ts ++ Ts') := fun x e => by
  rcases e with e | e
  · obtain ⟨cs, T, z, h1, h2⟩ := h x e
    exact ⟨cs, T, z, h1, List.mem_append.2 (Or.inl h2)⟩
  · obtain ⟨cs, T, z, h1, h2⟩ := k x e
    exact ⟨cs, T, z, h1, List.mem_append.2 (Or.inr h2)⟩
theorem typ_sh (h : Sh w R.k R.ph a r0 r1) : Typd w (fun y => y = R.k) [147] := fun x (e : x = R.k) => by
  subst e
  exact ⟨_, _, _, h, by simp⟩
theorem typ_ph {neg : Bool} {m : Nat} (h : Pq w R.ph neg m) : Typd w (fun y => y = R.ph) [201] := fun x (e : x = R.ph) => by
  obtain ⟨s, l0, l1, hp⟩ := h.form
  subst e
  exact ⟨_, _, _, hp, by simp⟩
theorem typ_own {B : Nat} {e : TypeId} {s n : Nat} {v : Value} {xs : List Value} (ho : w.ownsRow B e s v n xs) : Typd w (fun y => v.ownBlock = some y) [e] := fun x hx => by
  obtain ⟨cs, hg⟩ := own_blk ho hx
  exact ⟨cs, e, _, hg, by simp⟩
end
end Go.Proofs.YtfnohbalkpponaaGreatDoor
/- Reset, Totals. Own work of the verifier. -/
namespace Go.Proofs.YtfnohbalkpponaaGreatDoor
open Go.RowKit Go.Maps

section
variable {R : Rg} {I : List InS} {t : Nat} {room : Int} {tv : Value} {rf : Int} {TP : List PV} {D : DataW Unit} {SL : List SlK} {tt : Nat} {C : Nat → Nat → Nat → List Int} {a : Nat} {r0 r1 : Int} {T : List Bool} {w w' : World}
/-- What the lock's own turning leaves of a registry. -/
theorem RgA.lock (H : RgA R I t room tv rf TP D SL tt C a r0 r1 T w) {nx sv : Nat} (_hR : RgH R I nx sv room tv rf w') (hc : Chg (fun y => y = R.b) w w') : PsW w' 0 tv TP ∧ MpW w' R.mp I.length D ∧ SlS R I SL tt C w' ∧ Sh w' R.k R.ph a r0 r1 ∧ (∃ neg m, Pq w' R.ph neg m ∧ m ≤ tt) ∧ (∀ i (hi : i < I.length), Va.OwnL 0 (.slice I[i].la I[i].D.length I[i].lc) I[i].D w' ∧ I[i].D.length ≤ 1048576) ∧ Po.CP w' R.fb T := by
  have hT := typ_rb H.reg.rg
  refine ⟨H.ps.chg hc (hT.row H.ps.row (by decide)) (fun y hy => hT.row (H.cnt y hy) (by decide)), mp_chg H.reg.mp hc (hT.map H.reg.mp), H.sls.chg hc (fun j hj x hx e => by subst e; exact H.hrb j hj hx), hc.Sh H.sh (hT.no H.sh (by decide)), ?_, fun i hi => ⟨chg_row hc (H.lab i hi).1 (hT.row (H.lab i hi).1 (by decide)), (H.lab i hi).2⟩, cp_chg H.cp hc (hT.no H.cp (by decide))⟩
  obtain ⟨neg, m, hp, hm⟩ := H.pq
  refine ⟨neg, m, hc.Pq hp ?_, hm⟩
  obtain ⟨s, l0, l1, hp'⟩ := hp.form
  exact hT.no hp' (by decide)
def kdOfI (I : List InS) (j : Nat) : Int := if h : j < I.length then I[j].kd else 0
/-- What Reset tells and leaves. -/
structure RsQ (R : Rg) (I : List InS) (t : Nat) (room : Int) (tv : Value) (rf : Int) (TP : List PV) (D : DataW Unit) (SL : List SlK) (tt : Nat) (C : Nat → Nat → Nat → List Int) (a : Nat) (r0 r1 : Int) (T : List Bool) (w : World) (u : Value) (S : List VV) (L M : List PV) (w' : World) : Prop where
  all : RgA R I (t + 1) room tv (IntKind.u64.wrap (rf + IntKind.u64.wrap (rfs a r0 r1))) M D SL tt (fun j => upB (C j) a (fun _ => frst (kdOfI I j) (R.p : Int))) (1 - a) (rf0 a r0) (rf1 a r1) T w'
  len : L.length = I.length
  fold : ∀ j (hj : j < L.length) (hj' : j < SL.length), FoldR (fun s => ptF SL[j].kd (C j a s)) R.n L[j].P
  mrg : ∀ j (h1 : j < TP.length) (h2 : j < L.length) (h3 : j < M.length), MrgR TP[j].P L[j].P M[j].P
  srt : SrtV S
  perm : ∃ Y : List VV, Y.length = I.length ∧ (∀ j (h1 : j < I.length) (h2 : j < L.length) (h3 : j < Y.length), ValOf I[j] L[j].P Y[j]) ∧ S.Perm Y
  vs : VsW w' w.heap.size u S
  chg : Chg (fun y => y = R.b ∨ GB SL y ∨ y = R.k ∨ y = R.ph ∨ tv.ownBlock = some y) w w'
set_option maxHeartbeats 4000000 in
set_option maxRecDepth 100000 in
theorem reset15 (H : RgA R I t room tv rf TP D SL tt C a r0 r1 T w) (ht : t < 4611686018427387904) :
    Calls Tryz.prog 17 #[.pointer (some ⟨R.b, 0, none⟩), .pointer none] w fun e w' => ∃ (u : Value) (S : List VV) (L M : List PV), e = .returned (.agg #[.int .i64 (R.p : Int), u, .int .u64 (IntKind.u64.wrap (rfs a r0 r1))]) ∧ Hid (RsQ R I t room tv rf TP D SL tt C a r0 r1 T w u S L M w') := by
  have hH := hidO H
  have HTk : Hid (∀ o : Obj, Calls Tryz.prog 31 #[.pointer (some ⟨R.b, 1284, none⟩), .pointer none] (w.alloc o) fun e w' => e = .returned (.tuple #[.int .i64 (t : Int), .int .i64 0]) ∧ Hid (RgH R I (t + 1) t room tv rf w' ∧ Chg (fun y => y = R.b) w w' ∧ w'.heap[w.heap.size]? = some o)) := fun o => by
    refine Calls.mono (ltake_any (H.reg.rg.below (bel1 w o)) ht) ?_
    rintro e w' ⟨rfl, q1, q2⟩
    have hlt := H.reg.rg.lt
    exact ⟨rfl, q1.out, (Chg.of_below (S := fun y => y = R.b) (bel1 w o)).trans q2.out (fun x e => Or.inl e), q2.out.at_ (new_1 w o) (by show ¬ w.heap.size = R.b; omega)⟩
  have HDn : Hid (∀ W, RgH R I (t + 1) t room tv rf W → Chg (fun y => y = R.b) w W → Calls Tryz.prog 44 #[.pointer (some ⟨R.b, 0, none⟩), .pointer none] W fun e w' => ∃ (x : Option Addr) (m k : Nat) (L : List PV), e = .returned (.agg #[.slice x m k, .int .u64 (IntKind.u64.wrap (rfs a r0 r1))]) ∧ Hid (DrnQ R I SL C a r0 r1 (.slice x m k) L W w' ∧ ∃ neg, Pq w' R.ph neg 0)) := fun W hR hc => by
    obtain ⟨l1, l2, l3, l4, ⟨neg, m, l5, l6⟩, l7, l8⟩ := H.lock hR hc
    have htt := H.sls.tt
    refine Calls.mono (drain15 hR l3 (by have := H.reg.n1; omega) H.reg.n2 H.reg.p1 H.reg.p2 H.a2 (m := m) (by omega) l4 l5 H.hkp H.hap) ?_
    rintro e w' ⟨v, L, rfl, q⟩
    obtain ⟨x, m', k, e1⟩ := own_sl q.out.1.ps.row
    subst e1
    exact ⟨x, m', k, L, rfl, q.out.1, _, q.out.2⟩
  generalize hru : IntKind.u64.wrap (rfs a r0 r1) = ru at *
  have HRu := hidO hru
  clear hru H
  go_enter_defers Tryz.func17, Tryz.ntmps17
  go_upto_region 4 with (first
    | (go_at_call 31; with_reducible refine Calls.mono (HTk.out _) ?_; rintro e w1 ⟨rfl, H1⟩)
    | (go_at_call 44; with_reducible refine Calls.mono (HDn.out _ H1.out.1 H1.out.2.1) ?_; rintro e w2 ⟨vx, vm, vk, L, rfl, H2⟩))
  have hA := hH.out
  obtain ⟨h1R, h1C, h1B⟩ := H1.out
  obtain ⟨l1, l2, l3, l4, ⟨neg, m, l5, l6⟩, l7, l8⟩ := hA.lock h1R h1C
  obtain ⟨q2, neg2, q2p⟩ := H2.out
  have ty2 : Typd w1 (fun x => GB SL x ∨ x = R.k ∨ x = R.ph) ([90] ++ ([147] ++ [201])) := (typ_gb l3).or ((typ_sh l4).or (typ_ph l5))
  have h2R : RgH R I (t + 1) t room tv rf w2 := h1R.chg q2.chg (by obtain ⟨cs, z, hb⟩ := h1R.ty; exact ty2.no hb (by decide))
  have h2P : PsW w2 0 tv TP := l1.chg q2.chg (ty2.row l1.row (by decide)) (fun y hy => ty2.row (l1.cnt y hy) (by decide))
  have h2M : MpW w2 R.mp I.length D := mp_chg l2 q2.chg (ty2.map l2)
  have h2L : ∀ i (hi : i < I.length), Va.OwnL 0 (.slice I[i].la I[i].D.length I[i].lc) I[i].D w2 ∧ I[i].D.length ≤ 1048576 := fun i hi => ⟨chg_row q2.chg (l7 i hi).1 (ty2.row (l7 i hi).1 (by decide)), (l7 i hi).2⟩
  have h2C : Po.CP w2 R.fb T := cp_chg l8 q2.chg (ty2.no l8 (by decide))
  have h2B : w2.heap[w.heap.size]? = some (.cells #[.int .i64 0, .slice none 0 0, .int .u64 0] 62 (0, 0)) := q2.chg.at_ h1B (ty2.no h1B (by decide))
  have hlt1 : w.heap.size < w1.heap.size := (Array.getElem?_eq_some_iff.1 h1B).1
  have hs12 := q2.chg.size
  have htv : ∀ x, tv.ownBlock = some x → x < w1.heap.size := fun x hx => by
    obtain ⟨cs, hg⟩ := own_blk l1.row hx
    exact (Array.getElem?_eq_some_iff.1 hg).1
  have hrb1 : R.b < w.heap.size := hA.reg.rg.lt
  have hLT : L.length = TP.length := by have := q2.len; have := hA.sls.len; have := hA.reg.len; omega
  have hLI : L.length = I.length := by have := hA.reg.len; omega
  have hI256 := hA.reg.rg.len
  have hOL : ∀ x ∈ L, x.P.Ok 1048576 := fun x hx => by
    obtain ⟨j, hj, rfl⟩ := List.getElem_of_mem hx
    exact (q2.fold j hj (by have := q2.len; omega)).2
  have b3 := bel1 w2 (.cells #[.slice vx vm vk, .int .u64 ru] 95)
  have HKp := hidO (keep15 (ru := ru) (h2R.below b3) (h2P.below b3) hA.ok (q2.ps.below b3) hOL hLT (by omega) htv ⟨_, _, _, rfl⟩ (own_sl l1.row))
  have HX3 := hidO (new_1 w2 (.cells #[.slice vx vm vk, .int .u64 ru] 95))
  have HAll := hidO (And.intro h1R (And.intro h1C (And.intro q2 (And.intro q2p (And.intro h2M (And.intro h2L (And.intro h2C h2B)))))))
  have HNs := hidO (And.intro hlt1 (And.intro hs12 (And.intro htv (And.intro hrb1 (And.intro hLT (And.intro hLI (And.intro hI256 hOL)))))))
  have HRP := hidO (And.intro h2R h2P)
  have Hty := hidO ty2
  have HL3 := hidO (And.intro l3 (And.intro l4 l5))
  clear hA h1R h1C h1B l1 l2 l3 l4 l5 l6 l7 l8 q2 q2p ty2 h2R h2P h2M h2L h2C h2B hlt1 hs12 htv hrb1 hLT hLI hI256 hOL HTk HDn H1 H2
  have b3h := hidO b3
  clear b3
  generalize w2.alloc (.cells #[.slice vx vm vk, .int .u64 ru] 95) = w3 at *
  obtain ⟨x0, x1⟩ := two_c HX3.out
  have HSn : Hid (∀ (M : List PV) (W : World), KpQ R I (t + 1) t room tv rf ru TP L M w3 W → (W.cell? ⟨w2.heap.size, 0, none⟩ = some (.slice vx vm vk) ∧ W.cell? ⟨w2.heap.size, 1, none⟩ = some (.int .u64 ru)) ∧ Calls Tryz.prog 43 #[.pointer (some ⟨R.b, 0, none⟩), .agg #[.slice vx vm vk, .int .u64 ru]] W fun e w' => ∃ (a : Option Addr) (b c : Nat) (S : List VV), e = .returned (.agg #[.int .i64 (R.p : Int), .slice a b c, .int .u64 ru]) ∧ Hid (SnQ I L (.slice a b c) S W w' ∧ w'.heap[w.heap.size]? = some (.cells #[.int .i64 0, .slice none 0 0, .int .u64 0] 62 (0, 0)))) := fun M W hq => by
    obtain ⟨k1, k2, k3, k4, k5, k6, k7, k8⟩ := HAll.out
    obtain ⟨n1, n2, n3, n4, n5, n6, n7, n8⟩ := HNs.out
    have hsz : w2.heap.size ≤ w3.heap.size := b3h.out.size
    have hno : ∀ x, w1.heap.size ≤ x → ¬ (x = R.b ∨ tv.ownBlock = some x) := fun x hx k => by
      rcases k with k | k
      · omega
      · have := n3 x k; omega
    have hX : W.heap[w2.heap.size]? = some (.cells #[.slice vx vm vk, .int .u64 ru] 95 (0, 0)) := hq.chg.at_ HX3.out (hno _ n2)
    have hPs : PsW W w1.heap.size (.slice vx vm vk) L := (k3.ps.below b3h.out).chg hq.chg (fun x hx => hno x (own_ge k3.ps.row hx)) (fun y hy x hx => hno x (own_ge (k3.ps.cnt y hy) hx))
    have hres : W.heap[w.heap.size]? = some (.cells #[.int .i64 0, .slice none 0 0, .int .u64 0] 62 (0, 0)) := hq.chg.at_ ((b3h.out.block _ (by omega)).trans k8) (fun k => by
      rcases k with k | k
      · omega
      · obtain ⟨cs, hg⟩ := own_blk hH.out.reg.tot k
        have := (Array.getElem?_eq_some_iff.1 hg).1
        omega)
    refine ⟨two_c hX, ?_⟩
    refine Calls.mono (snap15 (ru := ru) hq.rg hPs n8 n6 (fun i hi => ?_)) ?_
    · have hl := chg_row (Chg.of_below (S := fun _ => False) b3h.out) (k6 i hi).1 (fun _ _ k => k)
      refine ⟨ownL_slb (chg_row hq.chg hl (fun x hx k => ?_)), (k6 i hi).2⟩
      rcases k with k | k
      · obtain ⟨cs, hg⟩ := own_blk (hH.out.lab i hi).1 hx
        exact rg_ne hH.out.reg.rg hg (by decide) k
      · exact ownNe (hH.out.lab i hi).1 hH.out.reg.tot (by decide) hx k
    · rintro e w' ⟨u, S, rfl, q⟩
      obtain ⟨a, b, c, e1⟩ := own_sl q.out.vs.row
      subst e1
      exact ⟨a, b, c, S, rfl, q.out, (q.out.bel.block _ (by have := (Array.getElem?_eq_some_iff.1 hres).1; omega)).trans hres⟩
  go_wp2_with (first
    | (go_at_call 45; with_reducible refine Calls.mono HKp.out ?_; rintro e w4 ⟨M, rfl, H4⟩; obtain ⟨⟨y0, y1⟩, hsn⟩ := HSn.out M w4 H4.out; have HSn4 := hidO hsn; clear hsn)
    | (go_at_call 43; with_reducible refine Calls.mono HSn4.out ?_; rintro e w5 ⟨sa, sb, sc, S, rfl, H5⟩; obtain ⟨z0, z1, z2⟩ := three_c H5.out.2; obtain ⟨f0, f1, f2⟩ := three_f H5.out.2))
  obtain ⟨k1, k2, k3, k4, k5, k6, k7, k8⟩ := HAll.out
  obtain ⟨n1, n2, n3, n4, n5, n6, n7, n8⟩ := HNs.out
  obtain ⟨h2R, h2P⟩ := HRP.out
  have hq := H4.out
  have hs5 := H5.out
  have hc6 : Chg (fun x => x = w.heap.size) w5 (((w5.setCell ⟨w.heap.size, 0, none⟩ (.int .i64 (R.p : Int))).setCell ⟨w.heap.size, 1, none⟩ (.slice sa sb sc)).setCell ⟨w.heap.size, 2, none⟩ (.int .u64 ru)) := chg_s (chg_s (chg_s (Chg.refl _ _) _ _) _ _) _ _
  have hw6 : (((w5.setCell ⟨w.heap.size, 0, none⟩ (.int .i64 (R.p : Int))).setCell ⟨w.heap.size, 1, none⟩ (.slice sa sb sc)).setCell ⟨w.heap.size, 2, none⟩ (.int .u64 ru)).heap[w.heap.size]? = some (.cells #[.int .i64 (R.p : Int), .slice sa sb sc, .int .u64 ru] 62 (0, 0)) := by
    rw [heap_setCell_same _ _ 2 _ _ _ (heap_setCell_same _ _ 1 _ _ _ (heap_setCell_same _ _ 0 _ _ _ hs5.2))]
    rfl
  generalize ((w5.setCell ⟨w.heap.size, 0, none⟩ (.int .i64 (R.p : Int))).setCell ⟨w.heap.size, 1, none⟩ (.slice sa sb sc)).setCell ⟨w.heap.size, 2, none⟩ (.int .u64 ru) = w6 at *
  have hR6 : RgH R I (t + 1) t room tv (IntKind.u64.wrap (rf + ru)) w6 := (hq.rg.below hs5.1.bel).chg hc6 (by show ¬ R.b = w.heap.size; omega)
  refine leaves_cons (f := 32) (args := #[.pointer (some ⟨R.b, 1284, none⟩), .pointer none]) (by simp) (by simp [go_sem]) ?_
  refine CallsD.mono (lgive_any .returning hR6 ht) ?_
  rintro e u' w7 ⟨rfl, rfl, HR7, HC7⟩
  refine ⟨_, results_cell_row (P := Tryz.prog) rfl _ _ w.heap.size 62 _ (0, 0) _ rfl (HC7.out.at_ hw6 (by show ¬ w.heap.size = R.b; omega)) Tryz.underlying62 rfl (by kernel_rfl), .slice sa sb sc, S, L, M, rfl, ?_⟩
  have hA := hH.out
  have hc47 : Chg (fun x => x = w.heap.size ∨ x = R.b) w4 w7 := (((Chg.of_below (S := fun x => x = w.heap.size ∨ x = R.b) hs5.1.bel).trans (hc6.mono (fun x e => Or.inl e)) (fun x e => Or.inl e))).trans (HC7.out.mono (fun x e => Or.inr e)) (fun x e => Or.inl e)
  have hc27 : Chg (fun x => x = R.b ∨ tv.ownBlock = some x ∨ x = w.heap.size) w2 w7 := ((Chg.of_below (S := fun x => x = R.b ∨ tv.ownBlock = some x ∨ x = w.heap.size) b3h.out).trans (hq.chg.mono (fun x e => by rcases e with e | e; exact Or.inl e; exact Or.inr (Or.inl e))) (fun x e => Or.inl e)).trans (hc47.mono (fun x e => by rcases e with e | e; exact Or.inr (Or.inr e); exact Or.inl e)) (fun x e => Or.inl e)
  have ty27 : Typd w2 (fun x => x = R.b ∨ tv.ownBlock = some x ∨ x = w.heap.size) ([97] ++ ([184] ++ [62])) := (typ_rb h2R).or ((typ_own h2P.row).or (fun x (e : x = w.heap.size) => by subst e; exact ⟨_, _, _, k8, by simp⟩))
  have hr4 : w4.heap[w.heap.size]? = some (.cells #[.int .i64 0, .slice none 0 0, .int .u64 0] 62 (0, 0)) := hq.chg.at_ ((b3h.out.block _ (by omega)).trans k8) (fun k => by
    rcases k with k | k
    · omega
    · obtain ⟨cs, hg⟩ := own_blk hA.reg.tot k
      have := (Array.getElem?_eq_some_iff.1 hg).1
      omega)
  have ty47 : Typd w4 (fun x => x = w.heap.size ∨ x = R.b) ([62] ++ [97]) := Typd.or (S := fun x => x = w.heap.size) (Ts := [62]) (fun x (e : x = w.heap.size) => by subst e; exact ⟨_, _, _, hr4, by simp⟩) (typ_rb hq.rg)
  have hru := HRu.out
  have hM7 : PsW w7 0 tv M := hq.ps.chg hc47 (ty47.row hq.ps.row (by decide)) (fun y hy => ty47.row (hq.ps.cnt y hy) (by decide))
  have hsl : ∀ j (hj : j < SL.length), ∀ x, SL[j].Blk x → ¬ (x = R.b ∨ tv.ownBlock = some x ∨ x = w.heap.size) := fun j hj x hx k => by
    have hn := hA.reg.n1
    rcases k with k | k | k
    · subst k; exact hA.hrb j hj hx
    · exact tv_no (hA.sls.sl j hj) (by omega) hA.reg.tot hA.reg.t0 k hx
    · have := (hA.sls.sl j hj).lt (by omega) hx
      omega
  have hkd : ∀ j (hj : j < SL.length), kdOfI I j = SL[j].kd := fun j hj => by
    have hj' : j < I.length := by have := hA.sls.len; omega
    unfold kdOfI
    rw [dif_pos hj']
    exact (hA.sls.s j hj hj').2.symm
  refine ⟨⟨⟨by rw [hru]; exact HR7.out, mp_chg k5 hc27 (ty27.map k5), hA.reg.md, hM7.row, by rw [hq.len]; exact hA.reg.len, fun e => hA.reg.t0 (List.length_eq_zero_iff.1 (by rw [← hq.len, e]; rfl)), hA.reg.n1, hA.reg.n2, hA.reg.p1, hA.reg.p2, hA.reg.rm⟩, hM7.cnt, hq.ok, ⟨hA.sls.len, hA.sls.s, fun j hj => ?_, fun j hj b hb i hi => ?_, hA.sls.apj, hA.sls.tt⟩, hc27.Sh k3.sh (ty27.no k3.sh (by decide)), by have := hA.a2; omega, ?_, ?_, ⟨neg2, 0, ?_, Nat.zero_le _⟩, fun i hi => ⟨chg_row hc27 (k6 i hi).1 (ty27.row (k6 i hi).1 (by decide)), (k6 i hi).2⟩, cp_chg k7 hc27 (ty27.no k7 (by decide)), hA.cl⟩, n6, fun j hj hj' => (k3.fold j hj hj').1, hq.mrg, hs5.1.srt, hs5.1.perm, ?_, ?_⟩
  · have := (k3.sl j hj).chg hc27 (hsl j hj)
    rw [hkd j hj]
    exact this
  · have hkk := (hA.sls.sl j hj).kd
    unfold upB
    by_cases e : b = a
    · rw [if_pos e, hkd j hj]
      exact RowOk.first hkk tt
    · rw [if_neg e]
      exact hA.sls.rows j hj b hb i hi
  · unfold rf0
    split
    · exact ⟨by omega, by omega⟩
    · exact hA.i0
  · unfold rf1
    split
    · exact ⟨by omega, by omega⟩
    · exact hA.i1
  · obtain ⟨s, l0, l1, hp⟩ := k4.form
    exact hc27.Pq k4 (ty27.no hp (by decide))
  · have hc57 : Chg (fun x => x = w.heap.size ∨ x = R.b) w5 w7 := (hc6.mono (fun x e => Or.inl e)).trans (HC7.out.mono (fun x e => Or.inr e)) (fun x e => Or.inl e)
    have hl4 := (Array.getElem?_eq_some_iff.1 hr4).1
    exact vs_le (hs5.1.vs.chg hc57 (fun x k => by rcases k with k | k <;> omega)) (by omega)
  · refine ((k2.mono (fun x e => (Or.inl e : x = R.b ∨ GB SL x ∨ x = R.k ∨ x = R.ph ∨ tv.ownBlock = some x))).trans (k3.chg.mono (fun x e => (by rcases e with e | e | e; exact Or.inr (Or.inl e); exact Or.inr (Or.inr (Or.inl e)); exact Or.inr (Or.inr (Or.inr (Or.inl e))) : x = R.b ∨ GB SL x ∨ x = R.k ∨ x = R.ph ∨ tv.ownBlock = some x))) (fun x e => Or.inl e)).trans hc27 (fun x e => ?_)
    rcases e with e | e | e
    · exact Or.inl (Or.inl e)
    · exact Or.inl (Or.inr (Or.inr (Or.inr (Or.inr e))))
    · exact Or.inr (by omega)
end
end Go.Proofs.YtfnohbalkpponaaGreatDoor
/- THE REGISTRY's steps: New, Register. Own work of the verifier. -/
namespace Go.Proofs.YtfnohbalkpponaaGreatDoor
open Go.RowKit Go.Maps

theorem wdF_pos (kd : Int) (p : Nat) : 0 < wdF kd p := by
  unfold wdF
  split
  · omega
  · split <;> omega
/-- A row of words that is none of a slab's own rows is no block of it. -/
theorem SlW.noRow {X : SlK} {p n : Nat} {C : Nat → Nat → List Int} {w : World} (H : SlW X p n C w) (hn : 0 < n) {g : Nat} {xs : List Int} (hr : RowW w g xs) (hl : 0 < xs.length) (hng : g ∉ X.G 0 ++ X.G 1) : ¬ X.Blk g := fun hb => by
  have hc := hr.cell 0 hl
  rcases hb with rfl | rfl | rfl | rfl | hb
  · rw [H.g.slab] at hc; cases hc
  · obtain ⟨cap, h0⟩ := H.g.held 0 (by decide)
    rw [h0] at hc; cases hc
  · have := H.g.rows 0 (by decide) 0 (by rw [H.g.len 0 (by decide)]; exact hn)
    rw [this] at hc; cases hc
  · have := H.g.rows 1 (by decide) 0 (by rw [H.g.len 1 (by decide)]; exact hn)
    rw [this] at hc; cases hc
  · exact hng hb
section
variable {R : Rg} {I : List InS} {t : Nat} {room : Int} {tv : Value} {rf : Int} {TP : List PV} {D : DataW Unit} {SL : List SlK} {tt : Nat} {C : Nat → Nat → Nat → List Int} {a : Nat} {r0 r1 : Int} {T : List Bool} {w w' : World}
theorem rgA_new {c : Int} (h : New15 R c w w') (n1 : 1 ≤ R.n) (n2 : R.n ≤ 16) (p1 : 1 ≤ R.p) (p2 : R.p ≤ 14) (hc : c ≤ 1048576) : RgA R [] 0 c (.slice none 0 0) 0 [] (.map []) [] 0 (fun _ _ _ => []) 0 0 0 (List.replicate R.n false) w' :=
  ⟨⟨h.rg, h.mp, mapIs_nil, World.ownsRow_nil _ _ _ _, rfl, fun _ => rfl, n1, n2, p1, p2, hc⟩, (fun x hx => by cases hx), (fun x hx => by cases hx), ⟨rfl, (fun j hj => absurd hj (Nat.not_lt_zero _)), (fun j hj => absurd hj (Nat.not_lt_zero _)), (fun j hj => absurd hj (Nat.not_lt_zero _)), (fun i j hi => absurd hi (Nat.not_lt_zero _)), by decide⟩, h.sh, by decide, ⟨by omega, by omega⟩, ⟨by omega, by omega⟩, ⟨false, 0, h.ph, Nat.le_refl _⟩, (fun i hi => absurd hi (Nat.not_lt_zero _)), h.cp, by simp⟩
/-- What a refusing Register leaves. -/
theorem RgA.stay (H : RgA R I t room tv rf TP D SL tt C a r0 r1 T w) {t' : Nat} (hR : RgH R I t' t' room tv rf w') (hc : Chg (fun y => y = R.b) w w') : RgA R I t' room tv rf TP D SL tt C a r0 r1 T w' := by
  obtain ⟨l1, l2, l3, l4, l5, l7, l8⟩ := H.lock hR hc
  exact ⟨⟨hR, l2, H.reg.md, l1.row, H.reg.len, H.reg.t0, H.reg.n1, H.reg.n2, H.reg.p1, H.reg.p2, H.reg.rm⟩, l1.cnt, H.ok, l3, l4, H.a2, H.i0, H.i1, l5, l7, l8, H.cl⟩
/-- What was there stays, in a world that has new blocks. -/
theorem RgA.below (H : RgA R I t room tv rf TP D SL tt C a r0 r1 T w) (hb : Below w.heap.size w w') : RgA R I t room tv rf TP D SL tt C a r0 r1 T w' := H.stay (H.reg.rg.below hb) (Chg.of_below hb)
/-- The contents of all cells, one instrument more. -/
def moreC (C : Nat → Nat → Nat → List Int) (n : Nat) (kd : Int) (p : Nat) : Nat → Nat → Nat → List Int := fun j => if j = n then (fun _ _ => frst kd (p : Int)) else C j
theorem RgA.new (H : RgA R I t room tv rf TP D SL tt C a r0 r1 T w) {X : SlK} {tv' : Value} {x : InS} {ser : List UInt8} (hs : ser = serT x) (hno : ∀ i (hi : i < I.length), serT I[i] ≠ ser) (hL : LayD R I (t + 1) (t + 1) room tv rf TP D ser x X tv' w w') (hk : x.kd = 1 ∨ x.kd = 2 ∨ x.kd = 3) (hla : Va.OwnL w.heap.size (.slice x.la x.D.length x.lc) x.D w') (hll : x.D.length ≤ 1048576) (hcl : 0 ≤ celF x.kd (R.n : Int) (R.p : Int)) :
    RgA R (I ++ [x]) (t + 1) (room - celF x.kd (R.n : Int) (R.p : Int)) tv' rf (TP ++ [PV.nil]) (D.put (.string ser) (.lit (.int .i64 (I.length : Int)))) (SL ++ [X]) tt (moreC C SL.length x.kd R.p) a r0 r1 T w' := by
  have hn1 := H.reg.n1
  have hc := hL.chg
  have noC : ∀ {y : Nat} {cs : Array Value} {T' : TypeId} {z : Nat × Nat}, w.heap[y]? = some (.cells cs T' z) → T' ≠ 97 → T' ≠ 184 → ¬ (y = R.b ∨ y = R.mp ∨ tv.ownBlock = some y) := fun hy h1 h2 k => by
    rcases k with k | k | k
    · exact rg_ne H.reg.rg hy h1 k
    · obtain ⟨es, ck, hm, _⟩ := H.reg.mp
      rw [← k, hy] at hm
      cases hm
    · obtain ⟨cs', hg⟩ := own_blk H.reg.tot k
      rw [hy] at hg
      injection hg with hg
      injection hg with _ hg
      exact h2 hg
  have noB : ∀ j (hj : j < SL.length), ∀ y, SL[j].Blk y → ¬ (y = R.b ∨ y = R.mp ∨ tv.ownBlock = some y) := fun j hj y hy k => by
    rcases k with k | k | k
    · subst k; exact H.hrb j hj hy
    · subst k
      obtain ⟨es, ck, hm, _⟩ := H.reg.mp
      exact (H.sls.sl j hj).noMap (by omega) hm hy
    · exact tv_no (H.sls.sl j hj) (by omega) H.reg.tot H.reg.t0 k hy
  have hsl : ∀ j (hj : j < SL.length), SlW SL[j] R.p R.n (C j) w' := fun j hj => (H.sls.sl j hj).chg hc (noB j hj)
  have hlen := H.sls.len
  have hmd : MapIs (D.put (.string ser) (.lit (.int .i64 (I.length : Int)))) (I ++ [x]) := by
    subst hs
    exact H.reg.md.put x (fun k => by
      obtain ⟨i, hi, e⟩ := (H.reg.md.2 (serT x)).1.1 k
      exact hno i hi e)
  refine ⟨⟨hL.rg, by rw [List.length_append]; exact hL.mp, hmd, hL.tot, by simp [H.reg.len], fun e => absurd e (by simp), H.reg.n1, H.reg.n2, H.reg.p1, H.reg.p2, by have := H.reg.rm; omega⟩, fun y hy => ?_, fun y hy => ?_, ⟨by simp [hlen], fun j hj hj' => ?_, fun j hj => ?_, fun j hj b hb i hi => ?_, fun i j hi hj hij g hg hx => ?_, H.sls.tt⟩, hc.Sh H.sh (noC H.sh (by decide) (by decide)), H.a2, H.i0, H.i1, ?_, fun i hi => ?_, cp_chg H.cp hc (noC H.cp (by decide) (by decide)), H.cl⟩
  · rcases List.mem_append.1 hy with hy | hy
    · exact chg_row hc (H.cnt y hy) (fun z hz k => by
        obtain ⟨cs, hg⟩ := own_blk (H.cnt y hy) hz
        exact noC hg (by decide) (by decide) k)
    · rw [List.mem_singleton.1 hy]
      exact World.ownsRow_nil _ _ _ _
  · rcases List.mem_append.1 hy with hy | hy
    · exact H.ok y hy
    · rw [List.mem_singleton.1 hy]
      exact Pt.nil_ok _
  · rw [List.length_append, List.length_singleton] at hj
    by_cases e : j < SL.length
    · rw [List.getElem_append_left e, List.getElem_append_left (by omega)]
      exact H.sls.s j e (by omega)
    · obtain rfl : j = SL.length := by omega
      rw [List.getElem_append_right (Nat.le_refl _), List.getElem_append_right (by omega)]
      simp only [hlen, Nat.sub_self, List.getElem_singleton]
      exact ⟨hL.kd.2, hL.kd.1⟩
  · rw [List.length_append, List.length_singleton] at hj
    by_cases e : j < SL.length
    · rw [List.getElem_append_left e]
      unfold moreC
      rw [if_neg (by omega)]
      exact hsl j e
    · obtain rfl : j = SL.length := by omega
      rw [List.getElem_append_right (Nat.le_refl _)]
      simp only [Nat.sub_self, List.getElem_singleton]
      unfold moreC
      rw [if_pos rfl]
      exact hL.sl
  · rw [List.length_append, List.length_singleton] at hj
    by_cases e : j < SL.length
    · rw [List.getElem_append_left e]
      unfold moreC
      rw [if_neg (by omega)]
      exact H.sls.rows j e b hb i hi
    · obtain rfl : j = SL.length := by omega
      rw [List.getElem_append_right (Nat.le_refl _)]
      simp only [Nat.sub_self, List.getElem_singleton]
      unfold moreC
      rw [if_pos rfl, hL.kd.1]
      exact RowOk.first hk tt
  · rw [List.length_append, List.length_singleton] at hi hj
    by_cases e1 : i < SL.length
    · rw [List.getElem_append_left e1] at hg
      by_cases e2 : j < SL.length
      · rw [List.getElem_append_left e2] at hx
        exact H.sls.apj i j e1 e2 hij g hg hx
      · obtain rfl : j = SL.length := by omega
        rw [List.getElem_append_right (Nat.le_refl _)] at hx
        simp only [Nat.sub_self, List.getElem_singleton] at hx
        have hlt := (H.sls.sl i e1).g.lt hg
        have hng : g ∉ X.G 0 ++ X.G 1 := fun k => by have := hL.ge g k; omega
        rcases List.mem_append.1 hg with hm | hm
        · obtain ⟨q, hq, eg⟩ := List.getElem_of_mem hm
          have hw := (hsl i e1).g.wid 0 (by decide) q (by have := (hsl i e1).g.len 0 (by decide); omega)
          have hr := (hsl i e1).g.left 0 (by decide) q hq
          rw [eg] at hr
          exact hL.sl.noRow (by omega) hr (by rw [hw]; exact wdF_pos _ _) hng hx
        · obtain ⟨q, hq, eg⟩ := List.getElem_of_mem hm
          have hw := (hsl i e1).g.wid 1 (by decide) q (by have := (hsl i e1).g.len 1 (by decide); omega)
          have hr := (hsl i e1).g.left 1 (by decide) q hq
          rw [eg] at hr
          exact hL.sl.noRow (by omega) hr (by rw [hw]; exact wdF_pos _ _) hng hx
    · obtain rfl : i = SL.length := by omega
      have e2 : j < SL.length := by omega
      rw [List.getElem_append_right (Nat.le_refl _)] at hg
      simp only [Nat.sub_self, List.getElem_singleton] at hg
      rw [List.getElem_append_left e2] at hx
      have h1 := hL.ge g hg
      have h2 := (H.sls.sl j e2).lt (by omega) hx
      omega
  · obtain ⟨neg, m, hp, hm⟩ := H.pq
    obtain ⟨s, l0, l1, hp'⟩ := hp.form
    exact ⟨neg, m, hc.Pq hp (noC hp' (by decide) (by decide)), hm⟩
  · rw [List.length_append, List.length_singleton] at hi
    by_cases e : i < I.length
    · rw [List.getElem_append_left e]
      exact ⟨chg_row hc (H.lab i e).1 (fun z hz k => by
        obtain ⟨cs, hg⟩ := own_blk (H.lab i e).1 hz
        exact noC hg (by decide) (by decide) k), (H.lab i e).2⟩
    · obtain rfl : i = I.length := by omega
      rw [List.getElem_append_right (Nat.le_refl _)]
      simp only [Nat.sub_self, List.getElem_singleton]
      exact ⟨own_leT hla (Nat.zero_le _), hll⟩
end
end Go.Proofs.YtfnohbalkpponaaGreatDoor
/- THE REGISTRY's steps: Recorder, records. Own work of the verifier. -/
namespace Go.Proofs.YtfnohbalkpponaaGreatDoor
open Go.RowKit Go.Maps

theorem in_wrapR (x : Int) : In64 (wrap64 x) := by unfold In64 wrap64; omega
theorem in_bmpR {er : Int} {a b : Nat} {r : Int} (h : In64 r) : In64 (bmp er a b r) := by
  unfold bmp
  split
  · exact h
  · split
    · exact in_wrapR _
    · exact h
theorem ansF_0R {why st : Int} {n : Nat} (h : ansF why st n = 0) : why = 0 ∧ ∃ i : Nat, st = (i : Int) ∧ i < n := by
  unfold ansF at h
  by_cases h0 : why = 0
  · rw [if_pos h0] at h
    by_cases h1 : 0 ≤ st ∧ st < (n : Int)
    · exact ⟨h0, in_range h1⟩
    · rw [if_neg h1] at h; exact absurd h (by decide)
  · rw [if_neg h0] at h; exact absurd h h0
theorem rows_nextR {kd kind x st : Int} {p n t a f : Nat} {cl : Bool} {Cj : Nat → Nat → List Int} (hr : ∀ b, b < 2 → ∀ i, i < n → RowOk kd p t (Cj b i)) (hk : kind = 4 ∨ kind = 5 ∨ kind = 6) (ht : t < 70368744177664) (hf : f < 18446744073709551616) (ha : a < 2) (er : Int) (her : er = ansF (whyF kind kd x f cl) st n) : ∀ b, b < 2 → ∀ i, i < n → RowOk kd p (t + 1) (nxC kind p Cj a st x f er b i) := fun b hb i hi => by
  by_cases h0 : er = 0
  · rw [h0] at her ⊢
    obtain ⟨h1, i', rfl, hi'⟩ := ansF_0R her.symm
    rw [nxC_ok]
    by_cases h2 : b = a ∧ i = i'
    · obtain ⟨rfl, rfl⟩ := h2
      rw [upC_at]
      exact (hr b hb i hi).laid hk ht hf h1
    · rw [upC_ne _ _ _ _ _ _ h2]
      exact (hr b hb i hi).mono (by omega)
  · rw [nxC_no h0]
    exact (hr b hb i hi).mono (by omega)
def upR (C : Nat → Nat → Nat → List Int) (id : Nat) (X : Nat → Nat → List Int) : Nat → Nat → Nat → List Int := fun j => if j = id then X else C j
section
variable {R : Rg} {I : List InS} {t : Nat} {room : Int} {tv : Value} {rf : Int} {TP : List PV} {D : DataW Unit} {SL : List SlK} {tt : Nat} {C : Nat → Nat → Nat → List Int} {a : Nat} {r0 r1 : Int} {T : List Bool} {w w' : World}
/-- Behind Recorder. -/
theorem RgA.recd (H : RgA R I t room tv rf TP D SL tt C a r0 r1 T w) (q : RecQ R I t room tv rf T w w') : RgA R I (t + 1) room tv rf TP D SL tt C a r0 r1 (T.set (Po.fst T) true) w' := by
  have hn1 := H.reg.n1
  have ty : Typd w (fun x => x = R.b ∨ x = R.fb) ([97] ++ [142]) := (typ_rb H.reg.rg).or (fun x (e : x = R.fb) => by subst e; exact ⟨_, _, _, H.cp, by simp⟩)
  have hc := q.chg
  refine ⟨⟨q.rg, mp_chg H.reg.mp hc (ty.map H.reg.mp), H.reg.md, chg_row hc H.reg.tot (ty.row H.reg.tot (by decide)), H.reg.len, H.reg.t0, H.reg.n1, H.reg.n2, H.reg.p1, H.reg.p2, H.reg.rm⟩, fun y hy => chg_row hc (H.cnt y hy) (ty.row (H.cnt y hy) (by decide)), H.ok, H.sls.chg hc (fun j hj x hx k => ?_), hc.Sh H.sh (ty.no H.sh (by decide)), H.a2, H.i0, H.i1, ?_, fun i hi => ⟨chg_row hc (H.lab i hi).1 (ty.row (H.lab i hi).1 (by decide)), (H.lab i hi).2⟩, q.cp, by simp [H.cl]⟩
  · rcases k with k | k
    · subst k; exact H.hrb j hj hx
    · subst k
      exact (H.sls.sl j hj).no (by omega) H.cp (by decide) H.cp.c0 rfl hx
  · obtain ⟨neg, m, hp, hm⟩ := H.pq
    obtain ⟨s, l0, l1, hp'⟩ := hp.form
    exact ⟨neg, m, hc.Pq hp (ty.no hp' (by decide)), hm⟩
/-- What a record finds. -/
theorem RgA.rck (H : RgA R I t room tv rf TP D SL tt C a r0 r1 T w) {id rc : Nat} {st : Int} {cl : Bool} (hid : id < SL.length) (hr : Rc w rc R.k st cl) : ∃ neg m, m ≤ tt ∧ RcK SL[id] R.p R.n tt (C id) rc R.k R.ph a m r0 r1 st neg cl w := by
  obtain ⟨neg, m, hp, hm⟩ := H.pq
  have htt := H.sls.tt
  have hn := H.reg.n1
  exact ⟨neg, m, hm, ⟨H.sls.sl id hid, by omega, H.reg.n2, H.reg.p1, H.reg.p2, H.a2, by omega, H.i0, H.i1, hr, H.sh, hp, H.hap id hid, H.sls.rows id hid, htt⟩⟩
/-- Behind a record. -/
theorem RgA.rcd (H : RgA R I t room tv rf TP D SL tt C a r0 r1 T w) {id m f : Nat} {kind x er st : Int} {neg cl : Bool} (hid : id < SL.length) (htt : tt + 1 < 70368744177664) (hm : m ≤ tt) (hk : kind = 4 ∨ kind = 5 ∨ kind = 6) (hf : f < 18446744073709551616) (her : er = ansF (whyF kind SL[id].kd x f cl) st R.n) (hQ : RcQ SL[id] R.p R.n (nxC kind R.p (C id) a st x f er) R.k R.ph a m r0 r1 neg er w w') : RgA R I t room tv rf TP D SL (tt + 1) (upR C id (nxC kind R.p (C id) a st x f er)) a (bmp er a 0 r0) (bmp er a 1 r1) T w' := by
  obtain ⟨q1, q2, q3, q4⟩ := hQ
  have hn1 := H.reg.n1
  obtain ⟨neg0, m0, hp0, _⟩ := H.pq
  have ty : Typd w (fun y => y ∈ SL[id].G 0 ++ SL[id].G 1 ∨ y = R.k ∨ y = R.ph) ([90] ++ ([147] ++ [201])) := Typd.or (fun y hy => typ_gb H.sls y ⟨id, hid, hy⟩) ((typ_sh H.sh).or (typ_ph hp0))
  have hR : RgH R I t t room tv rf w' := H.reg.rg.chg q4 (by obtain ⟨cs, z, hb⟩ := H.reg.rg.ty; exact ty.no hb (by decide))
  refine ⟨⟨hR, mp_chg H.reg.mp q4 (ty.map H.reg.mp), H.reg.md, chg_row q4 H.reg.tot (ty.row H.reg.tot (by decide)), H.reg.len, H.reg.t0, H.reg.n1, H.reg.n2, H.reg.p1, H.reg.p2, H.reg.rm⟩, fun y hy => chg_row q4 (H.cnt y hy) (ty.row (H.cnt y hy) (by decide)), H.ok, ⟨H.sls.len, H.sls.s, fun j hj => ?_, fun j hj b hb i hi => ?_, H.sls.apj, htt⟩, q1, H.a2, in_bmpR H.i0, in_bmpR H.i1, ⟨neg, m + 1, q2, by omega⟩, fun i hi => ⟨chg_row q4 (H.lab i hi).1 (ty.row (H.lab i hi).1 (by decide)), (H.lab i hi).2⟩, cp_chg H.cp q4 (ty.no H.cp (by decide)), H.cl⟩
  · unfold upR
    by_cases e : j = id
    · subst e
      rw [if_pos rfl]
      exact q3
    · rw [if_neg e]
      refine (H.sls.sl j hj).chg q4 (fun y hy k => ?_)
      rcases k with k | k | k
      · exact H.sls.apj id j hid hj (fun e' => e e'.symm) y k hy
      · exact (H.hap j hj y hy).1 k
      · exact (H.hap j hj y hy).2 k
  · unfold upR
    by_cases e : j = id
    · subst e
      rw [if_pos rfl]
      exact rows_nextR (H.sls.rows j hj) hk H.sls.tt hf H.a2 er her b hb i hi
    · rw [if_neg e]
      exact (H.sls.rows j hj b hb i hi).mono (by omega)
end
end Go.Proofs.YtfnohbalkpponaaGreatDoor
/- awake: a counter counts. Own work of the verifier. -/
namespace Go.Proofs.YtfnohbalkpponaaGreatDoor
open Go.RowKit Go.Maps

/-- The counter's description. -/
def dC : La.Ds := ⟨1, [99], [], []⟩
theorem chk_dC : La.chkD dC = 0 := by decide +kernel
theorem print_dC : La.printT dC.name dC.labels = [99] := by decide +kernel
theorem cel_dC : celF 1 (1 : Int) (1 : Int) = 4 := by decide +kernel
theorem dsC_nil (w : World) (d : La.Ds) (h : d.labels = []) : La.DsC w d (.agg #[.int .i64 d.kind, .string ⟨d.name.toArray⟩, .string ⟨d.help.toArray⟩, .slice none 0 0]) := ⟨none, 0, 0, 0, by rw [h]; rfl, fun k => absurd h k, by rw [h]; exact Nat.le_refl _, by omega, by rw [h]; intro i hi; exact absurd hi (Nat.not_lt_zero _)⟩
theorem ans_dC (f : Nat) : (0 : Int) = ansF (whyF 4 1 7 f false) 0 1 := by
  unfold whyF
  rw [if_neg (by decide), if_pos (show (1 : Int) = kdOf 4 by decide), if_neg (by decide)]
  rfl
theorem vs_cells {W : World} {B : Nat} {v : Value} {L : List VV} (h : VsW W B v L) (i : Nat) (hi : i < L.length) : ∃ g cap, v = .slice (some ⟨g, 0, none⟩) L.length cap ∧ ∀ j, j < 11 → W.cell? ⟨g, i * 11 + j, none⟩ = (vvC L[i])[j]? := by
  rcases h.row.2 with ⟨k, k2⟩ | ⟨g, cap, cur, k, hb, hg, h3, h4, h5, h6⟩
  · omega
  · refine ⟨g, cap, k, fun j hj => ?_⟩
    rw [← flV_get L i hi j hj, ← h6, List.getElem?_take, if_pos (by omega)]
    unfold World.cell?
    simp only [hg]
    simp
theorem fold_dC {P : Pt} {X : Nat → Pt} (hX : X 0 = ptF 1 [7, 0]) (h : FoldR X 1 P) : P.hi = 0 ∧ P.lo = 7 := by
  cases h with
  | next h1 hm =>
    cases h1
    have e1 := hm.hi
    have e2 := hm.lo
    rw [hX] at e1 e2
    exact ⟨e1.trans (by decide +kernel), e2.trans (by decide +kernel)⟩
end Go.Proofs.YtfnohbalkpponaaGreatDoor
