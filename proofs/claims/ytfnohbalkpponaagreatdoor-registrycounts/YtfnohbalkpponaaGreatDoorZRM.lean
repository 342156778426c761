/- Totals. Own work of the verifier. -/
import Derived.Test.YtfnohbalkpponaaGreatDoorZRJ
import Derived.Test.YtfnohbalkpponaaGreatDoorZRK
namespace Go.Proofs.YtfnohbalkpponaaGreatDoor
open Go.RowKit Go.Maps

section
variable {R : Rg} {I : List InS} {t : Nat} {room : Int} {tv : Value} {rf : Int} {TP : List PV} {D : DataW Unit} {SL : List SlK} {tt : Nat} {C : Nat → Nat → Nat → List Int} {a : Nat} {r0 r1 : Int} {T : List Bool} {w w' : World}
/-- What Totals tells and leaves. -/
structure TtQ (R : Rg) (I : List InS) (t : Nat) (room : Int) (tv : Value) (rf : Int) (TP : List PV) (D : DataW Unit) (SL : List SlK) (tt : Nat) (C : Nat → Nat → Nat → List Int) (a : Nat) (r0 r1 : Int) (T : List Bool) (w : World) (u : Value) (S : List VV) (w' : World) : Prop where
  all : RgA R I (t + 1) room tv rf TP D SL tt C a r0 r1 T w'
  srt : SrtV S
  perm : ∃ Y : List VV, Y.length = I.length ∧ (∀ j (h1 : j < I.length) (h2 : j < TP.length) (h3 : j < Y.length), ValOf I[j] TP[j].P Y[j]) ∧ S.Perm Y
  vs : VsW w' w.heap.size u S
  chg : Chg (fun y => y = R.b) w w'
set_option maxHeartbeats 4000000 in
set_option maxRecDepth 100000 in
theorem totals15 (H : RgA R I t room tv rf TP D SL tt C a r0 r1 T w) (ht : t < 4611686018427387904) :
    Calls Tryz.prog 14 #[.pointer (some ⟨R.b, 0, none⟩), .pointer none] w fun e w' => ∃ (u : Value) (S : List VV), e = .returned (.agg #[.int .i64 (R.p : Int), u, .int .u64 rf]) ∧ Hid (TtQ R I t room tv rf TP D SL tt C a r0 r1 T w u S w') := by
  have hH := hidO H
  obtain ⟨va, vm, vc, etv⟩ := own_sl H.reg.tot
  subst etv
  have HTk : Hid (∀ o : Obj, Calls Tryz.prog 31 #[.pointer (some ⟨R.b, 1284, none⟩), .pointer none] (w.alloc o) fun e w' => e = .returned (.tuple #[.int .i64 (t : Int), .int .i64 0]) ∧ Hid (RgH R I (t + 1) t room (.slice va vm vc) rf w' ∧ Chg (fun y => y = R.b) w w' ∧ w'.heap[w.heap.size]? = some o)) := fun o => by
    refine Calls.mono (ltake_any (H.reg.rg.below (bel1 w o)) ht) ?_
    rintro e w' ⟨rfl, q1, q2⟩
    have hlt := H.reg.rg.lt
    exact ⟨rfl, q1.out, (Chg.of_below (S := fun y => y = R.b) (bel1 w o)).trans q2.out (fun x e => Or.inl e), q2.out.at_ (new_1 w o) (by show ¬ w.heap.size = R.b; omega)⟩
  have HSn : Hid (∀ W, RgH R I (t + 1) t room (.slice va vm vc) rf W → Chg (fun y => y = R.b) w W → W.heap[w.heap.size]? = some (.cells #[.int .i64 0, .slice none 0 0, .int .u64 0] 62 (0, 0)) → Calls Tryz.prog 43 #[.pointer (some ⟨R.b, 0, none⟩), .agg #[.slice va vm vc, .int .u64 rf]] W fun e w' => ∃ (a : Option Addr) (b c : Nat) (S : List VV), e = .returned (.agg #[.int .i64 (R.p : Int), .slice a b c, .int .u64 rf]) ∧ Hid (SnQ I TP (.slice a b c) S W w' ∧ w'.heap[w.heap.size]? = some (.cells #[.int .i64 0, .slice none 0 0, .int .u64 0] 62 (0, 0)))) := fun W hR hc hres => by
    obtain ⟨l1, l2, l3, l4, l5, l7, l8⟩ := H.lock hR hc
    refine Calls.mono (snap15 (ru := rf) hR l1 H.ok H.reg.len (fun i hi => ⟨ownL_slb (l7 i hi).1, (l7 i hi).2⟩)) ?_
    rintro e w' ⟨u, S, rfl, q⟩
    obtain ⟨a, b, c, e1⟩ := own_sl q.out.vs.row
    subst e1
    exact ⟨a, b, c, S, rfl, q.out, (q.out.bel.block _ (by have := (Array.getElem?_eq_some_iff.1 hres).1; omega)).trans hres⟩
  clear H
  go_enter_defers Tryz.func14, Tryz.ntmps14
  go_wp2_with (first
    | (go_at_call 31; with_reducible refine Calls.mono (HTk.out _) ?_; rintro e w1 ⟨rfl, H1⟩; have x0 := H1.out.1.cTv; have x1 := H1.out.1.cRf)
    | (go_at_call 43; with_reducible refine Calls.mono (HSn.out _ H1.out.1 H1.out.2.1 H1.out.2.2) ?_; rintro e w5 ⟨sa, sb, sc, S, rfl, H5⟩; obtain ⟨z0, z1, z2⟩ := three_c H5.out.2; obtain ⟨f0, f1, f2⟩ := three_f H5.out.2))
  have hA := hH.out
  obtain ⟨h1R, h1C, h1B⟩ := H1.out
  have hs5 := H5.out
  have hlt := hA.reg.rg.lt
  have hc6 : Chg (fun x => x = w.heap.size) w5 (((w5.setCell ⟨w.heap.size, 0, none⟩ (.int .i64 (R.p : Int))).setCell ⟨w.heap.size, 1, none⟩ (.slice sa sb sc)).setCell ⟨w.heap.size, 2, none⟩ (.int .u64 rf)) := chg_s (chg_s (chg_s (Chg.refl _ _) _ _) _ _) _ _
  have hw6 : (((w5.setCell ⟨w.heap.size, 0, none⟩ (.int .i64 (R.p : Int))).setCell ⟨w.heap.size, 1, none⟩ (.slice sa sb sc)).setCell ⟨w.heap.size, 2, none⟩ (.int .u64 rf)).heap[w.heap.size]? = some (.cells #[.int .i64 (R.p : Int), .slice sa sb sc, .int .u64 rf] 62 (0, 0)) := by
    rw [heap_setCell_same _ _ 2 _ _ _ (heap_setCell_same _ _ 1 _ _ _ (heap_setCell_same _ _ 0 _ _ _ hs5.2))]
    rfl
  generalize ((w5.setCell ⟨w.heap.size, 0, none⟩ (.int .i64 (R.p : Int))).setCell ⟨w.heap.size, 1, none⟩ (.slice sa sb sc)).setCell ⟨w.heap.size, 2, none⟩ (.int .u64 rf) = w6 at *
  have hR6 : RgH R I (t + 1) t room (.slice va vm vc) rf w6 := (h1R.below hs5.1.bel).chg hc6 (by show ¬ R.b = w.heap.size; omega)
  refine leaves_cons (f := 32) (args := #[.pointer (some ⟨R.b, 1284, none⟩), .pointer none]) (by simp) (by simp [go_sem]) ?_
  refine CallsD.mono (lgive_any .returning hR6 ht) ?_
  rintro e u' w7 ⟨rfl, rfl, HR7, HC7⟩
  refine ⟨_, results_cell_row (P := Tryz.prog) rfl _ _ w.heap.size 62 _ (0, 0) _ rfl (HC7.out.at_ hw6 (by show ¬ w.heap.size = R.b; omega)) Tryz.underlying62 rfl (by kernel_rfl), .slice sa sb sc, S, rfl, ?_⟩
  have hl1 : w.heap.size < w1.heap.size := (Array.getElem?_eq_some_iff.1 h1B).1
  have hc57 : Chg (fun x => x = w.heap.size ∨ x = R.b) w5 w7 := (hc6.mono (fun x e => Or.inl e)).trans (HC7.out.mono (fun x e => Or.inr e)) (fun x e => Or.inl e)
  have hcA : Chg (fun x => x = R.b) w w7 := (h1C.trans (Chg.of_below (S := fun x => x = R.b) hs5.1.bel) (fun x e => Or.inl e)).trans hc57 (fun x e => by
    rcases e with e | e
    · exact Or.inr (by omega)
    · exact Or.inl e)
  exact ⟨hA.stay HR7.out hcA, hs5.1.srt, hs5.1.perm, vs_le (hs5.1.vs.chg hc57 (fun x k => by rcases k with k | k <;> omega)) (by omega), hcA⟩
end
end Go.Proofs.YtfnohbalkpponaaGreatDoor
/- Release. Own work of the verifier. -/
namespace Go.Proofs.YtfnohbalkpponaaGreatDoor
open Go.RowKit Go.Maps

theorem rc_chg {S : Nat → Prop} {w w' : World} {rc k : Nat} {st : Int} {cl : Bool} (h : Rc w rc k st cl) (hc : Chg S w w') (hS : ¬ S rc) : Rc w' rc k st cl := by unfold Rc at *; exact hc.at_ h hS
section
variable {R : Rg} {I : List InS} {t : Nat} {room : Int} {tv : Value} {rf : Int} {TP : List PV} {D : DataW Unit} {SL : List SlK} {tt : Nat} {C : Nat → Nat → Nat → List Int} {a : Nat} {r0 r1 : Int} {T : List Bool} {w w' : World}
/-- What closes a recorder leaves the registry alone. -/
theorem RgA.closed (H : RgA R I t room tv rf TP D SL tt C a r0 r1 T w) {rc k : Nat} {st : Int} {cl : Bool} (hr : Rc w rc k st cl) (hc : Chg (fun x => x = rc) w w') : RgA R I t room tv rf TP D SL tt C a r0 r1 T w' := by
  have hn1 := H.reg.n1
  have ty : Typd w (fun x => x = rc) [151] := fun x (e : x = rc) => by subst e; exact ⟨_, _, _, hr, by simp⟩
  have hR : RgH R I t t room tv rf w' := H.reg.rg.chg hc (by obtain ⟨cs, z, hb⟩ := H.reg.rg.ty; exact ty.no hb (by decide))
  refine ⟨⟨hR, mp_chg H.reg.mp hc (ty.map H.reg.mp), H.reg.md, chg_row hc H.reg.tot (ty.row H.reg.tot (by decide)), H.reg.len, H.reg.t0, H.reg.n1, H.reg.n2, H.reg.p1, H.reg.p2, H.reg.rm⟩, fun y hy => chg_row hc (H.cnt y hy) (ty.row (H.cnt y hy) (by decide)), H.ok, H.sls.chg hc (fun j hj x hx k => ?_), hc.Sh H.sh (ty.no H.sh (by decide)), H.a2, H.i0, H.i1, ?_, fun i hi => ⟨chg_row hc (H.lab i hi).1 (ty.row (H.lab i hi).1 (by decide)), (H.lab i hi).2⟩, cp_chg H.cp hc (ty.no H.cp (by decide)), H.cl⟩
  · subst k
    exact (H.sls.sl j hj).no (by omega) hr (by decide) hr.cells.1 rfl hx
  · obtain ⟨neg, m, hp, hm⟩ := H.pq
    obtain ⟨s, l0, l1, hp'⟩ := hp.form
    exact ⟨neg, m, hc.Pq hp (ty.no hp' (by decide)), hm⟩
end
end Go.Proofs.YtfnohbalkpponaaGreatDoor
/- RegistryCounts: pick, total. Own work of the verifier. -/
namespace Go.Proofs.YtfnohbalkpponaaGreatDoor
open Go.RowKit Go.Maps

theorem pick15_any (c : Int) (n : Nat) (hn : 0 < n) (hn2 : n < 4611686018427387904) (w : World) : Calls Tryz.prog 15 #[.int .i64 c, .int .i64 (n : Int)] w fun e w' => ∃ i : Nat, e = .returned (.int .i64 (i : Int)) ∧ i < n ∧ w' = w := by
  have hn0 : ¬ (n : Int) = 0 := by omega
  have hn0' : ((n : Int) == 0) = false := by simpa using hn0
  obtain ⟨z, hz⟩ : ∃ z : Int, c.tmod (n : Int) = z := ⟨_, rfl⟩
  have b1 : -(n : Int) < z ∧ z < (n : Int) := by
    rw [← hz]
    exact ⟨Int.lt_tmod_of_pos c (by omega), Int.tmod_lt_of_pos c (by omega)⟩
  by_cases h : z < 0
  · obtain ⟨i, hi⟩ : ∃ i : Nat, (i : Int) = z + (n : Int) := ⟨(z + n).toNat, by omega⟩
    have hi2 : z + (n : Int) = (i : Int) := hi.symm
    have HI : Hid (i < n) := by unfold Hid; omega
    clear hi
    go_enter Tryz.func15, Tryz.ntmps15
    go_wp2
    go_ret
    exact ⟨i, by first | rfl | (congr 2; omega), HI.out, rfl⟩
  · obtain ⟨i, rfl⟩ : ∃ i : Nat, z = (i : Int) := ⟨z.toNat, by omega⟩
    have HI : Hid (i < n) := by unfold Hid; omega
    go_enter Tryz.func15, Tryz.ntmps15
    go_wp2
    go_ret
    exact ⟨i, rfl, HI.out, rfl⟩
/-- The low words of values, summed in 64 bits. -/
def loS (S : List VV) : Int := S.foldl (fun a x => IntKind.u64.wrap (a + x.lo)) 0
theorem loS_step (S : List VV) (i : Nat) (hi : i < S.length) : loS (S.take (i + 1)) = IntKind.u64.wrap (loS (S.take i) + S[i].lo) := by
  unfold loS
  rw [List.take_succ_eq_append_getElem hi, List.foldl_append]
  rfl
set_option maxHeartbeats 2000000 in
theorem total15_any (p r : Int) (u : Value) (S : List VV) (B : Nat) (w : World) (h : VsW w B u S) (hl : S.length ≤ 1048576) :
    Calls Tryz.prog 16 #[.agg #[.int .i64 p, u, .int .u64 r]] w fun e w' => e = .returned (.int .u64 (loS S)) ∧ Hid (Below w.heap.size w w') := by
  obtain ⟨a, c, hu⟩ : ∃ a c, u = .slice a S.length c := by
    rcases h.row.2 with ⟨k, k2⟩ | ⟨g, cap, cur, k, _⟩
    · exact ⟨none, 0, by rw [k, k2]⟩
    · exact ⟨_, _, k⟩
  subst hu
  have HC : Hid (∀ i (hi : i < S.length), ∃ g, a = some ⟨g, 0, none⟩ ∧ ∀ W, Below w.heap.size w W → W.cell? ⟨g, i * 11 + 4 + 1, none⟩ = some (.int .u64 S[i].lo)) := fun i hi => by
    obtain ⟨g, cap, e, k⟩ := vs_cells h i hi
    injection e with e1
    refine ⟨g, e1, fun W hW => ?_⟩
    have k5 := k 5 (by decide)
    exact kp (k5.trans rfl) hW
  have HS := hidO (loS_step S)
  clear h
  have HB := hidO (bel1 w (.cells #[.int .i64 p, .slice a S.length c, .int .u64 r] 62))
  have HX : Hid (_ ∧ _ ∧ _) := three_c (new_1 w (.cells #[.int .i64 p, .slice a S.length c, .int .u64 r] 62))
  go_enter Tryz.func16, Tryz.ntmps16
  go_wp2_with fail
  generalize w.alloc (.cells #[.int .i64 p, .slice a S.length c, .int .u64 r] 62) = w0 at *
  go_loopw [3, 4] (fun n b wr => ∃ i : Nat, i ≤ S.length ∧ b = .int .i64 (i : Int) ∧ n = .int .u64 (loS (S.take i)) ∧ wr = w0) (fun _ b _ => S.length - (intOf b).toNat)
  case atStart => exact ⟨0, by omega, rfl, rfl, rfl⟩
  case round =>
    obtain ⟨i, hi, rfl, rfl, rfl⟩ := hrel
    obtain ⟨x0, x1, x2⟩ := HX.out
    by_cases hlt : i < S.length
    · have hlt' : (i : Int) < (S.length : Int) := by omega
      obtain ⟨g, rfl, hc⟩ := HC.out i hlt
      have hcell := hc wr HB.out
      have hst := HS.out i hlt
      generalize S[i].lo = lo at *
      generalize hq : loS (S.take i) = q at *
      go_wp2_with fail
      exact ⟨⟨i + 1, by omega, by simp, by rw [hst], by first | rfl | trivial⟩, by simp [intOf]; omega⟩
    · have hlt' : ¬ (i : Int) < (S.length : Int) := by omega
      have hi' : i = S.length := by omega
      subst hi'
      rw [List.take_length]
      have HQ : Hid (∃ q, loS S = q) := ⟨_, rfl⟩
      obtain ⟨q, hq⟩ := HQ.out
      rw [hq]
      have HQ := hidO hq
      clear hq
      go_wp2_with fail
      go_ret
      exact ⟨by rw [HQ.out]; rfl, HB⟩
end Go.Proofs.YtfnohbalkpponaaGreatDoor
/- RegistryCounts: distinct. Own work of the verifier. -/
namespace Go.Proofs.YtfnohbalkpponaaGreatDoor
open Go.RowKit Go.Maps

/-- How many unlike numbers the first i are. -/
def dstT (L : List Int) : Nat → Nat
  | 0 => 0
  | i + 1 => dstT L i + (if L.getD i 0 ∈ L.take i then 0 else 1)
theorem dst_le (L : List Int) (i : Nat) : dstT L i ≤ i := by
  induction i with
  | zero => exact Nat.le_refl _
  | succ i ih => unfold dstT; split <;> omega
def seenB (L : List Int) (i k : Nat) : Bool := decide (L.getD i 0 ∈ L.take k)
theorem seen_0 (L : List Int) (i : Nat) : seenB L i 0 = false := by unfold seenB; simp
theorem seen_s (L : List Int) (i k : Nat) (hk : k < L.length) : seenB L i (k + 1) = (seenB L i k || (L.getD k 0 == L.getD i 0)) := by
  have e : L.getD k 0 = L[k] := by simp [List.getD_eq_getElem?_getD, hk]
  unfold seenB
  rw [List.take_succ_eq_append_getElem hk, e, Bool.eq_iff_iff]
  simp only [decide_eq_true_eq, List.mem_append, List.mem_singleton, Bool.or_eq_true, beq_iff_eq]
  exact ⟨fun h => h.imp id Eq.symm, fun h => h.imp id Eq.symm⟩
theorem dst_s (L : List Int) (i : Nat) : dstT L (i + 1) = dstT L i + (if seenB L i i then 0 else 1) := by
  show dstT L i + (if L.getD i 0 ∈ L.take i then 0 else 1) = _
  unfold seenB
  by_cases h : L.getD i 0 ∈ L.take i
  · rw [if_pos h, if_pos (by simpa using h)]
  · rw [if_neg h, if_neg (by simpa using h)]
set_option maxHeartbeats 4000000 in
set_option maxRecDepth 100000 in
theorem distinct15_any (L : List Int) (a : Option Addr) (g c : Nat) (w : World) (ha : L ≠ [] → a = some ⟨g, 0, none⟩) (hc : ∀ i (_hi : i < L.length), w.cell? ⟨g, i, none⟩ = some (.int .i64 (L.getD i 0))) (hl : L.length ≤ 1048576) :
    Calls Tryz.prog 13 #[.slice a L.length c] w fun e w' => e = .returned (.int .i64 (dstT L L.length : Int)) ∧ Hid (Below w.heap.size w w') := by
  have HA := hidO ha
  have HC := hidO hc
  have HD := hidO (dst_s L)
  have H0 := hidO (seen_0 L)
  have HS := hidO (seen_s L)
  have HL := hidO (dst_le L)
  clear ha hc
  go_enter Tryz.func13, Tryz.ntmps13
  go_wp2_with fail
  go_loopw [3, 4] (fun n b wr => ∃ i q : Nat, i ≤ L.length ∧ b = .int .i64 (i : Int) ∧ n = .int .i64 (dstT L i : Int) ∧ wr = w.drewN q) (fun _ b _ => L.length - (intOf b).toNat)
  case atStart => exact ⟨0, 0, by omega, rfl, rfl, rfl⟩
  case round =>
    obtain ⟨i, q, hi, rfl, rfl, rfl⟩ := hrel
    by_cases hlt : i < L.length
    · have hlt' : (i : Int) < (L.length : Int) := by omega
      obtain rfl := HA.out (by intro e; rw [e] at hlt; simp at hlt)
      have hci := HC.out i hlt
      have hd := HD.out i
      have hd0 := H0.out i
      have hdl := HL.out i
      have HSi := hidO (fun k hk => HS.out i k hk)
      have HCi := hidO (fun k hk => HC.out k hk)
      go_wp2_with fail
      go_loopw [5, 6] (fun s b wr => ∃ k n : Nat, k ≤ i ∧ b = .int .i64 (k : Int) ∧ s = .bool (seenB L i k) ∧ wr = w.drewN n) (fun _ b _ => i - (intOf b).toNat)
      case atStart => exact ⟨0, q, by omega, rfl, by rw [hd0], rfl⟩
      case round =>
        obtain ⟨k, n, hk, rfl, rfl, rfl⟩ := hrel
        by_cases hkl : k < i
        · have hkl' : (k : Int) < (i : Int) := by omega
          have hkL : (k : Int) < (L.length : Int) := by omega
          have hck := HCi.out k (by omega)
          have hsk := HSi.out k (by omega)
          cases hb : seenB L i k
          · rw [hb, Bool.false_or] at hsk
            have HSk := hidO hsk
            clear hsk hb HSi HCi hd hd0
            generalize L.getD k 0 = x at *
            generalize L.getD i 0 = y at *
            as_aux_lemma =>
              go_wp2_with fail
              go_region
              go_wp2_with fail
              exact ⟨⟨k + 1, n + 1, by omega, by go_num, by rw [HSk.out], rfl⟩, by simp [intOf]; omega⟩
          · rw [hb, Bool.true_or] at hsk
            have HSk := hidO hsk
            clear hsk hb HSi HCi hd hd0
            as_aux_lemma =>
              go_wp2_with fail
              go_region
              go_wp2_with fail
              exact ⟨⟨k + 1, n + 1, by omega, by go_num, by rw [HSk.out], rfl⟩, by simp [intOf]; omega⟩
        · have hkl' : ¬ (k : Int) < (i : Int) := by omega
          obtain rfl : k = i := by omega
          clear hci hd0 HSi HCi
          generalize dstT L k = y at *
          cases hb : seenB L k k
          · rw [hb] at hd
            have HZ := hidO hd
            clear hd hb
            go_wp2_with fail
            exact ⟨⟨k + 1, n, by omega, by go_num, by rw [HZ.out]; simp, rfl⟩, by simp [intOf]; omega⟩
          · rw [hb] at hd
            have HZ := hidO hd
            clear hd hb
            go_wp2_with fail
            exact ⟨⟨k + 1, n, by omega, by go_num, by rw [HZ.out]; simp, rfl⟩, by simp [intOf]; omega⟩
    · have hlt' : ¬ (i : Int) < (L.length : Int) := by omega
      have hi' : i = L.length := by omega
      subst hi'
      have HQ : Hid (∃ y, dstT L L.length = y) := ⟨_, rfl⟩
      obtain ⟨y, hy⟩ := HQ.out
      rw [hy]
      have HY := hidO hy
      clear hy
      go_wp2_with fail
      go_ret
      exact ⟨by rw [HY.out]; rfl, below_drew _ _⟩
end Go.Proofs.YtfnohbalkpponaaGreatDoor
/- RegistryCounts: sums of low words. Own work of the verifier. -/
namespace Go.Proofs.YtfnohbalkpponaaGreatDoor
open Go.RowKit Go.Maps

/-- Alike in 64 bits. -/
def Mq (x y : Int) : Prop := x % 18446744073709551616 = y % 18446744073709551616
theorem Mq.refl (x : Int) : Mq x x := rfl
theorem Mq.symm {x y : Int} (h : Mq x y) : Mq y x := Eq.symm h
theorem Mq.trans {x y z : Int} (h : Mq x y) (k : Mq y z) : Mq x z := Eq.trans h k
theorem Mq.add {x y u v : Int} (h : Mq x y) (k : Mq u v) : Mq (x + u) (y + v) := by unfold Mq at *; omega
theorem mrg_lo {P X P' : Pt} (h : MrgR P X P') : Mq P'.lo (P.lo + X.lo) := by
  have := h.lo
  unfold Mq
  rw [this]
  unfold loOf rnd val
  omega
/-- The sum of n numbers. -/
def smF (f : Nat → Int) : Nat → Int
  | 0 => 0
  | n + 1 => smF f n + f n
theorem smF_congr {f g : Nat → Int} {n : Nat} (h : ∀ j, j < n → Mq (f j) (g j)) : Mq (smF f n) (smF g n) := by
  induction n with
  | zero => rfl
  | succ n ih => exact (ih (fun j hj => h j (by omega))).add (h n (by omega))
theorem smF_add (f g : Nat → Int) (n : Nat) : smF (fun j => f j + g j) n = smF f n + smF g n := by
  induction n with
  | zero => rfl
  | succ n ih => simp only [smF, ih]; omega
theorem smF_zero {f : Nat → Int} {n : Nat} (h : ∀ j, j < n → Mq (f j) 0) : Mq (smF f n) 0 := by
  induction n with
  | zero => rfl
  | succ n ih => exact (ih (fun j hj => h j (by omega))).add (h n (by omega))
/-- One of them grows. -/
theorem smF_up {f g : Nat → Int} {n i : Nat} {x : Int} (hi : i < n) (h : Mq (g i) (f i + x)) (hn : ∀ j, j < n → j ≠ i → g j = f j) : Mq (smF g n) (smF f n + x) := by
  induction n with
  | zero => omega
  | succ n ih =>
    by_cases e : i = n
    · subst e
      have e1 : Mq (smF g i) (smF f i) := smF_congr (fun j hj => by rw [hn j (by omega) (by omega)]; exact Mq.refl _)
      have := e1.add h
      show Mq (smF g i + g i) (smF f i + f i + x)
      unfold Mq at *
      omega
    · have e1 := ih (by omega) (fun j hj => hn j (by omega))
      have e2 := hn n (by omega) (by omega)
      show Mq (smF g n + g n) (smF f n + f n + x)
      rw [e2]
      unfold Mq at *
      omega
theorem fold_lo {X : Nat → Pt} {n : Nat} {P : Pt} (h : FoldR X n P) : Mq P.lo (smF (fun s => (X s).lo) n) := by
  induction h with
  | nil => rfl
  | next _ hm ih => exact (mrg_lo hm).trans (ih.add (Mq.refl _))
/-- A counter's row, its low word. -/
def rowLo (row : List Int) : Int := (ptF 1 row).lo
theorem rowLo_first (p : Int) : rowLo (frst 1 p) = 0 := by
  unfold rowLo ptF frst
  rw [if_neg (by decide), if_pos rfl]
  decide +kernel
theorem rowLo_add {row : List Int} (hl : row.length = 2) (n : Int) : Mq (rowLo (adW row n)) (rowLo row + n) := by
  match row, hl with
  | [lo, hi], _ =>
    unfold rowLo ptF
    rw [if_neg (by decide)]
    show Mq (uw (wrap64 (lo + n))) (uw lo + n)
    unfold Mq uw
    rw [IntKind.wrap_u64, IntKind.wrap_u64]
    unfold wrap64
    omega
/-- The low words of values, all together. -/
def sumV : List VV → Int
  | [] => 0
  | x :: S => x.lo + sumV S
theorem sumV_app (S Y : List VV) : sumV (S ++ Y) = sumV S + sumV Y := by
  induction S with
  | nil => show sumV Y = 0 + sumV Y; omega
  | cons x S ih => show x.lo + sumV (S ++ Y) = x.lo + sumV S + sumV Y; omega
theorem sumV_perm {S Y : List VV} (h : S.Perm Y) : sumV S = sumV Y := by
  induction h with
  | nil => rfl
  | cons x _ ih => show x.lo + _ = x.lo + _; omega
  | swap x y l => show y.lo + (x.lo + _) = x.lo + (y.lo + _); omega
  | trans _ _ h k => exact h.trans k
theorem sumV_take (S : List VV) (f : Nat → Int) (h : ∀ j (hj : j < S.length), S[j].lo = f j) (n : Nat) (hn : n ≤ S.length) : sumV (S.take n) = smF f n := by
  induction n with
  | zero => rfl
  | succ n ih =>
    rw [List.take_succ_eq_append_getElem (by omega), sumV_app, ih (by omega)]
    show _ + (S[n].lo + 0) = _ + f n
    rw [h n (by omega)]
    omega
theorem sumV_sum (S : List VV) (f : Nat → Int) (h : ∀ j (hj : j < S.length), S[j].lo = f j) : sumV S = smF f S.length := by
  have := sumV_take S f h S.length (Nat.le_refl _)
  rwa [List.take_length] at this
theorem loS_mq (S : List VV) : loS S = sumV S % 18446744073709551616 := by
  have key : ∀ (L : List VV) (a : Int), (L.foldl (fun a x => IntKind.u64.wrap (a + x.lo)) (a % 18446744073709551616)) = (a + sumV L) % 18446744073709551616 := by
    intro L
    induction L with
    | nil => intro a; show a % _ = (a + 0) % _; rw [Int.add_zero]
    | cons x L ih =>
      intro a
      show L.foldl _ (IntKind.u64.wrap (a % 18446744073709551616 + x.lo)) = _
      rw [IntKind.wrap_u64, show (a % 18446744073709551616 + x.lo) % 18446744073709551616 = (a + x.lo) % 18446744073709551616 by omega, ih]
      show _ = (a + (x.lo + sumV L)) % _
      rw [Int.add_assoc]
  have := key S 0
  rw [Int.zero_add] at this
  exact this
/-- One number more. -/
theorem dst_snoc (L : List Int) (x : Int) : dstT (L ++ [x]) (L ++ [x]).length = dstT L L.length + (if x ∈ L then 0 else 1) := by
  have same : ∀ n, n ≤ L.length → dstT (L ++ [x]) n = dstT L n := by
    intro n
    induction n with
    | zero => intro _; rfl
    | succ n ih =>
      intro hn
      have e1 : (L ++ [x]).getD n 0 = L.getD n 0 := by simp [List.getD_eq_getElem?_getD, List.getElem?_append_left (show n < L.length by omega)]
      have e2 : (L ++ [x]).take n = L.take n := List.take_append_of_le_length (by omega)
      show dstT (L ++ [x]) n + (if (L ++ [x]).getD n 0 ∈ (L ++ [x]).take n then 0 else 1) = dstT L n + (if L.getD n 0 ∈ L.take n then 0 else 1)
      rw [ih (by omega), e1, e2]
  rw [List.length_append, List.length_singleton]
  show dstT (L ++ [x]) L.length + (if (L ++ [x]).getD L.length 0 ∈ (L ++ [x]).take L.length then 0 else 1) = _
  rw [same _ (Nat.le_refl _), List.take_left]
  congr 1
  simp [List.getD_eq_getElem?_getD]
/-- One series, one number. -/
theorem MapIs.one {D : DataW Unit} {I : List InS} (h : MapIs D I) {i j : Nat} (hi : i < I.length) (hj : j < I.length) (e : serT I[i] = serT I[j]) : i = j := by
  have e1 := (h.2 (serT I[j])).2 i hi e
  have e2 := (h.2 (serT I[j])).2 j hj rfl
  rw [e1] at e2
  injection e2 with e2
  injection e2 with _ e2
  omega
end Go.Proofs.YtfnohbalkpponaaGreatDoor
/- RegistryCounts: the state behind calls. Own work of the verifier. -/
namespace Go.Proofs.YtfnohbalkpponaaGreatDoor
open Go.RowKit Go.Maps

/-- A registry of counters, two recorders, and what was added: since the last Reset, and all. -/
structure CtS (R : Rg) (I : List InS) (t : Nat) (room : Int) (tv : Value) (rf : Int) (TP : List PV) (D : DataW Unit) (SL : List SlK) (tt : Nat) (C : Nat → Nat → Nat → List Int) (a : Nat) (r0 r1 : Int) (ra rb : Nat) (since all : Int) (w W : World) : Prop where
  n : R.n = 2
  p : R.p = 1
  rg : RgA R I t room tv rf TP D SL tt C a r0 r1 [true, true] W
  xa : Rc W ra R.k 0 false
  xb : Rc W rb R.k 1 false
  rm : room = 4096 - 8 * (I.length : Int)
  ins : ∀ i (hi : i < I.length), I[i].kd = 1 ∧ I[i].nm = [99] ∧ I[i].hp = []
  off : ∀ j, j < I.length → ∀ i, i < 2 → C j (1 - a) i = frst 1 ((1 : Nat) : Int)
  now : Mq since (smF (fun j => smF (fun s => rowLo (C j a s)) 2) I.length)
  ever : Mq all (since + smF (fun j => (TP.getD j PV.nil).P.lo) I.length)
  bel : Below w.heap.size w W
  fr : Fresh R SL tv w.heap.size
  fa : w.heap.size ≤ ra ∧ w.heap.size ≤ rb
/-- Some such registry at b, with n counters. -/
def Ct (b ra rb n t tt : Nat) (since all : Int) (w W : World) : Prop := ∃ (R : Rg) (I : List InS) (room : Int) (tv : Value) (rf : Int) (TP : List PV) (D : DataW Unit) (SL : List SlK) (C : Nat → Nat → Nat → List Int) (a : Nat) (r0 r1 : Int), R.b = b ∧ I.length = n ∧ CtS R I t room tv rf TP D SL tt C a r0 r1 ra rb since all w W
/-- What the registry's calls write. -/
def RgS (S : Nat → Prop) (W : World) : Prop := Typd W S [97, 184, 90, 147, 201, 142]
section
variable {R : Rg} {I : List InS} {t : Nat} {room : Int} {tv : Value} {rf : Int} {TP : List PV} {D : DataW Unit} {SL : List SlK} {tt : Nat} {C : Nat → Nat → Nat → List Int} {a : Nat} {r0 r1 : Int} {ra rb : Nat} {since all : Int} {w W W' : World}
/-- An Add. -/
theorem CtS.add (H : CtS R I t room tv rf TP D SL tt C a r0 r1 ra rb since all w W) {id : Nat} (hid : id < I.length) (n : Int) (hn : 0 ≤ n ∧ n < 9223372036854775808) (htt : tt + 1 < 70368744177664) {rc : Nat} {st : Nat} (hx : (rc = ra ∧ st = 0) ∨ (rc = rb ∧ st = 1)) :
    Calls Tryz.prog 18 #[.pointer (some ⟨R.b, 0, none⟩), .pointer none, .pointer (some ⟨rc, 0, none⟩), .int .i64 (id : Int), .int .i64 n] W fun e w' => e = .returned (.int .i64 0) ∧ Hid (∃ C' r0' r1' S, CtS R I t room tv rf TP D SL (tt + 1) C' a r0' r1' ra rb (since + n) (all + n) w w' ∧ Chg S W w' ∧ RgS S W) := by
  have hlen := H.rg.sls.len
  have hidS : id < SL.length := by omega
  have hs := H.rg.sls.s id hidS hid
  have hkd : SL[id].kd = 1 := by rw [hs.2]; exact (H.ins id hid).1
  have hr : Rc W rc R.k (st : Int) false := by
    rcases hx with ⟨rfl, rfl⟩ | ⟨rfl, rfl⟩
    · exact H.xa
    · exact H.xb
  have hst : st < 2 := by rcases hx with ⟨_, rfl⟩ | ⟨_, rfl⟩ <;> omega
  refine add15_in H.rg.reg.rg _ id n 0 hid _ (fun W1 hb1 => ?_)
  have H1 := H.rg.below hb1
  have hr1 : Rc W1 rc R.k (st : Int) false := (hb1.block rc (Array.getElem?_eq_some_iff.1 hr).1).trans hr
  obtain ⟨neg, m, hm, hK⟩ := H1.rck (id := id) hidS hr1
  have her : (0 : Int) = ansF (whyF 4 SL[id].kd n 0 false) (st : Int) R.n := by
    rw [hkd, H.n]
    unfold whyF
    rw [if_neg (by decide), if_pos (show (1 : Int) = kdOf 4 by decide), if_neg (by decide), if_neg (by omega)]
    unfold ansF
    rw [if_pos rfl, if_pos (by omega)]
  have hA := recK_add (x := n) (f := 0) hK ⟨by omega, by omega⟩ 0 her
  rw [← hs.1]
  refine Calls.mono hA ?_
  rintro e w' ⟨rfl, q⟩
  have hN := H1.rcd (id := id) hidS htt hm (Or.inl rfl) (by decide) her q.out
  obtain ⟨_, _, _, q4⟩ := q.out
  have hC : nxC 4 R.p (C id) a (st : Int) n 0 0 = upC (C id) a st (adW (C id a st) n) := by
    rw [nxC_ok]
    unfold layD
    rw [if_pos rfl]
  rw [hC] at hN
  have hlw : (C id a st).length = 2 := by
    have := (H.rg.sls.rows id hidS a H.rg.a2 st (by rw [H.n]; exact hst)).len
    rw [this, hkd]
    rfl
  have ty : Typd W1 (fun y => y ∈ SL[id].G 0 ++ SL[id].G 1 ∨ y = R.k ∨ y = R.ph) ([90] ++ ([147] ++ [201])) := by
    obtain ⟨neg0, m0, hp0, _⟩ := H1.pq
    exact Typd.or (fun y hy => typ_gb H1.sls y ⟨id, hidS, hy⟩) ((typ_sh H1.sh).or (typ_ph hp0))
  have xk : ∀ {x : Nat} {s : Int}, Rc W x R.k s false → Rc w' x R.k s false := fun hx' => rc_chg (rc_chg hx' (Chg.of_below (S := fun _ => False) hb1) (fun k => k)) q4 (by
    have h1 := rc_chg hx' (Chg.of_below (S := fun _ => False) hb1) (fun k => k)
    exact ty.no h1 (by decide))
  refine ⟨rfl, _, _, _, _, ⟨H.n, H.p, hN, xk H.xa, xk H.xb, H.rm, H.ins, fun j hj i hi => ?_, ?_, ?_, ?_, H.fr, H.fa⟩, (Chg.of_below (S := fun y => y ∈ SL[id].G 0 ++ SL[id].G 1 ∨ y = R.k ∨ y = R.ph) hb1).trans q4 (fun x e => Or.inl e), ?_⟩
  · unfold upR
    split
    · next e =>
      subst e
      rw [upC_ne _ _ _ _ _ _ (by have := H.rg.a2; omega)]
      exact H.off j hj i hi
    · exact H.off j hj i hi
  · refine Mq.trans (H.now.add (Mq.refl n)) (Mq.symm (smF_up (i := id) hid ?_ (fun j hj hne => ?_)))
    · refine smF_up (i := st) hst ?_ (fun s hs' hne => ?_)
      · show Mq (rowLo (upR C id _ id a st)) _
        unfold upR
        rw [if_pos rfl, upC_at]
        exact rowLo_add hlw n
      · show rowLo (upR C id _ id a s) = _
        unfold upR
        rw [if_pos rfl, upC_ne _ _ _ _ _ _ (fun k => hne k.2)]
    · show smF (fun s => rowLo (upR C id _ j a s)) 2 = _
      unfold upR
      rw [if_neg hne]
  · have := H.ever
    unfold Mq at *
    omega
  · refine H.bel.trans ((Chg.below ((Chg.of_below (S := fun y => y ∈ SL[id].G 0 ++ SL[id].G 1 ∨ y = R.k ∨ y = R.ph) hb1).trans q4 (fun x e => Or.inl e))) H.bel.size (fun y hy => ?_))
    rcases hy with hy | hy | hy
    · exact H.fr.gb y ⟨id, hidS, hy⟩
    · exact hy ▸ H.fr.k
    · exact hy ▸ H.fr.ph
  · obtain ⟨neg0, m0, hp0, _⟩ := H.rg.pq
    have tyW : Typd W (fun y => y ∈ SL[id].G 0 ++ SL[id].G 1 ∨ y = R.k ∨ y = R.ph) ([90] ++ ([147] ++ [201])) := Typd.or (fun y hy => typ_gb H.rg.sls y ⟨id, hidS, hy⟩) ((typ_sh H.rg.sh).or (typ_ph hp0))
    exact fun x hx' => by
      obtain ⟨cs, T, z, k1, k2⟩ := tyW x hx'
      exact ⟨cs, T, z, k1, by revert k2; simp; rintro (e | e | e) <;> simp [e]⟩
end
end Go.Proofs.YtfnohbalkpponaaGreatDoor
/- RegistryCounts: Reset, Totals. Own work of the verifier. -/
namespace Go.Proofs.YtfnohbalkpponaaGreatDoor
open Go.RowKit Go.Maps

theorem getD_eq {α : Type} (L : List α) (d : α) (j : Nat) (hj : j < L.length) : L.getD j d = L[j] := by simp [List.getD_eq_getElem?_getD, hj]
/-- The values' low words are those of parts. -/
theorem val_sum {I : List InS} {L : List PV} {S : List VV} (hk : ∀ i (hi : i < I.length), I[i].kd = 1) (hl : L.length = I.length) (h : ∃ Y : List VV, Y.length = I.length ∧ (∀ j (h1 : j < I.length) (h2 : j < L.length) (h3 : j < Y.length), ValOf I[j] L[j].P Y[j]) ∧ S.Perm Y) : S.length = I.length ∧ loS S = smF (fun j => (L.getD j PV.nil).P.lo) I.length % 18446744073709551616 := by
  obtain ⟨Y, y1, y2, y3⟩ := h
  refine ⟨y3.length_eq.trans y1, ?_⟩
  rw [loS_mq, sumV_perm y3, sumV_sum Y (fun j => (L.getD j PV.nil).P.lo) (fun j hj => ?_), y1]
  have h1 : j < I.length := by omega
  have h2 : j < L.length := by omega
  rw [getD_eq L _ j h2, (y2 j h1 h2 hj).lo, hk j h1]
  rfl
section
variable {R : Rg} {I : List InS} {t : Nat} {room : Int} {tv : Value} {rf : Int} {TP : List PV} {D : DataW Unit} {SL : List SlK} {tt : Nat} {C : Nat → Nat → Nat → List Int} {a : Nat} {r0 r1 : Int} {ra rb : Nat} {since all : Int} {w W W' : World}
theorem rgs_all (H : RgA R I t room tv rf TP D SL tt C a r0 r1 [true, true] W) : RgS (fun y => y = R.b ∨ GB SL y ∨ y = R.k ∨ y = R.ph ∨ tv.ownBlock = some y) W := by
  obtain ⟨neg0, m0, hp0, _⟩ := H.pq
  have ty : Typd W (fun y => y = R.b ∨ GB SL y ∨ y = R.k ∨ y = R.ph ∨ tv.ownBlock = some y) ([97] ++ ([90] ++ ([147] ++ ([201] ++ [184])))) := (typ_rb H.reg.rg).or ((typ_gb H.sls).or ((typ_sh H.sh).or ((typ_ph hp0).or (typ_own H.reg.tot))))
  exact fun x hx' => by
    obtain ⟨cs, T, z, k1, k2⟩ := ty x hx'
    exact ⟨cs, T, z, k1, by revert k2; simp; rintro (e | e | e | e | e) <;> simp [e]⟩
/-- A Reset. -/
theorem CtS.reset (H : CtS R I t room tv rf TP D SL tt C a r0 r1 ra rb since all w W) (ht : t < 4611686018427387904) :
    Calls Tryz.prog 17 #[.pointer (some ⟨R.b, 0, none⟩), .pointer none] W fun e w' => ∃ (u : Value) (r : Int) (S : List VV), e = .returned (.agg #[.int .i64 1, u, .int .u64 r]) ∧ Hid (VsW w' W.heap.size u S ∧ S.length = I.length ∧ loS S = since % 18446744073709551616 ∧ ∃ rf' M C' r0' r1' Q, CtS R I (t + 1) room tv rf' M D SL tt C' (1 - a) r0' r1' ra rb 0 all w w' ∧ Chg Q W w' ∧ RgS Q W) := by
  refine Calls.mono (reset15 H.rg ht) ?_
  rintro e w' ⟨u, S, L, M, rfl, q⟩
  have q := q.out
  have ha := H.rg.a2
  have hRS := rgs_all H.rg
  obtain ⟨v1, v2⟩ := val_sum (fun i hi => (H.ins i hi).1) q.len q.perm
  have hlenS := H.rg.sls.len
  have hkd : ∀ j (hj : j < SL.length), SL[j].kd = 1 := fun j hj => by
    rw [(H.rg.sls.s j hj (by omega)).2]
    exact (H.ins j (by omega)).1
  have hL : ∀ j, j < I.length → Mq ((L.getD j PV.nil).P.lo) (smF (fun s => rowLo (C j a s)) 2) := fun j hj => by
    have h2 : j < L.length := by have := q.len; omega
    rw [getD_eq L _ j h2]
    have hf := fold_lo (q.fold j h2 (by omega))
    rw [hkd j (by omega), H.n] at hf
    exact hf
  have hsum := smF_congr hL
  have hM : M.length = I.length := q.all.reg.len
  have hTP : TP.length = I.length := H.rg.reg.len
  have xk : ∀ {x : Nat} {s : Int}, Rc W x R.k s false → Rc w' x R.k s false := fun hx' => rc_chg hx' q.chg (hRS.no hx' (by decide))
  refine ⟨u, _, S, by rw [H.p]; rfl, q.vs, v1, ?_, _, M, _, _, _, _, ⟨H.n, H.p, q.all, xk H.xa, xk H.xb, H.rm, H.ins, fun j hj i hi => ?_, ?_, ?_, ?_, H.fr, H.fa⟩, q.chg, hRS⟩
  · rw [v2]
    exact hsum.trans H.now.symm
  · show upB (C j) a _ (1 - (1 - a)) i = _
    rw [show 1 - (1 - a) = a by omega, upB_at]
    unfold kdOfI
    rw [dif_pos hj, (H.ins j hj).1, H.p]
  · refine Mq.symm (smF_zero (fun j hj => smF_zero (fun s hs => ?_)))
    show Mq (rowLo (upB (C j) a _ (1 - a) s)) 0
    rw [upB_ne _ _ _ _ _ (by omega), H.off j hj s hs, rowLo_first]
    exact Mq.refl _
  · have e1 : Mq (smF (fun j => (M.getD j PV.nil).P.lo) I.length) (smF (fun j => (TP.getD j PV.nil).P.lo + (L.getD j PV.nil).P.lo) I.length) := smF_congr (fun j hj => by
      have h1 : j < TP.length := by omega
      have h2 : j < L.length := by have := q.len; omega
      have h3 : j < M.length := by omega
      rw [getD_eq M _ j h3, getD_eq TP _ j h1, getD_eq L _ j h2]
      exact mrg_lo (q.mrg j h1 h2 h3))
    rw [smF_add] at e1
    have e2 := H.ever
    have e3 := H.now
    unfold Mq at *
    omega
  · refine H.bel.trans (q.chg.below H.bel.size (fun y hy => ?_))
    rcases hy with hy | hy | hy | hy | hy
    · exact hy ▸ H.fr.b
    · exact H.fr.gb y hy
    · exact hy ▸ H.fr.k
    · exact hy ▸ H.fr.ph
    · exact H.fr.tv y hy
/-- Totals. -/
theorem CtS.totals (H : CtS R I t room tv rf TP D SL tt C a r0 r1 ra rb since all w W) (ht : t < 4611686018427387904) :
    Calls Tryz.prog 14 #[.pointer (some ⟨R.b, 0, none⟩), .pointer none] W fun e w' => ∃ (u : Value) (r : Int) (S : List VV), e = .returned (.agg #[.int .i64 1, u, .int .u64 r]) ∧ Hid (VsW w' W.heap.size u S ∧ S.length = I.length ∧ loS S = (all - since) % 18446744073709551616 ∧ ∃ Q, CtS R I (t + 1) room tv rf TP D SL tt C a r0 r1 ra rb since all w w' ∧ Chg Q W w' ∧ RgS Q W) := by
  refine Calls.mono (totals15 H.rg ht) ?_
  rintro e w' ⟨u, S, rfl, q⟩
  have q := q.out
  obtain ⟨v1, v2⟩ := val_sum (fun i hi => (H.ins i hi).1) H.rg.reg.len q.perm
  have hc : Chg (fun y => y = R.b ∨ GB SL y ∨ y = R.k ∨ y = R.ph ∨ tv.ownBlock = some y) W w' := q.chg.mono (fun x e => Or.inl e)
  have hRS := rgs_all H.rg
  have xk : ∀ {x : Nat} {s : Int}, Rc W x R.k s false → Rc w' x R.k s false := fun hx' => rc_chg hx' hc (hRS.no hx' (by decide))
  refine ⟨u, _, S, by rw [H.p]; rfl, q.vs, v1, ?_, _, ⟨H.n, H.p, q.all, xk H.xa, xk H.xb, H.rm, H.ins, H.off, H.now, H.ever, ?_, H.fr, H.fa⟩, hc, hRS⟩
  · rw [v2]
    have := H.ever
    unfold Mq at this
    omega
  · exact H.bel.trans (q.chg.below H.bel.size (fun y hy => hy ▸ H.fr.b))
end
end Go.Proofs.YtfnohbalkpponaaGreatDoor
/- RegistryCounts: Register. Own work of the verifier. -/
namespace Go.Proofs.YtfnohbalkpponaaGreatDoor
open Go.RowKit Go.Maps

/-- The description of a counter with one label. -/
def dN (v : List UInt8) : La.Ds := ⟨1, [99], [], [([110], v)]⟩
theorem chk_dN (v : List UInt8) : La.chkD (dN v) = La.txE v := by
  unfold La.chkD dN
  rw [if_neg (show ¬ ((1 : Int) < 1 ∨ (3 : Int) < 1) by decide), if_neg (show ¬ La.nameB [99] = false by decide +kernel), if_neg (show ¬ La.txE [] ≠ 0 by decide +kernel), if_neg (by simp)]
  unfold La.chkL
  rw [if_neg (show ¬ La.lnameB [110] = false by decide +kernel)]
  by_cases h : La.txE v = 0
  · rw [if_neg (by simpa using h)]
    unfold La.chkL
    exact h.symm
  · rw [if_pos h]
theorem tx_len {v : List UInt8} (h : La.txE v = 0) : v.length ≤ 1024 := by
  unfold La.txE at h
  by_cases k : 1024 < v.length
  · rw [if_pos k] at h; cases h
  · omega
theorem esc_len (l : List UInt8) : (La.escL true l).length ≤ 2 * l.length := by
  induction l with
  | nil => exact Nat.le_refl _
  | cons b r ih =>
    have : (La.esc1 true b).length ≤ 2 := by
      unfold La.esc1
      split
      · exact Nat.le_refl _
      · split
        · exact Nat.le_refl _
        · show 1 ≤ 2; omega
    show (La.esc1 true b ++ La.escL true r).length ≤ _
    rw [List.length_append, List.length_cons]
    omega
theorem print_dN (v : List UInt8) : (La.printT (dN v).name (dN v).labels).length ≤ 2 * v.length + 10 := by
  have := esc_len v
  simp only [dN, La.printT, La.prB, La.lbT, List.length_append, List.length_cons, List.length_nil]
  simp
  omega
theorem cel_dN : celF 1 (2 : Int) (1 : Int) = 8 := by decide +kernel
/-- What is no block of the registry's. -/
def RgK (S : Nat → Prop) (W : World) : Prop := ∀ x cs T z, W.heap[x]? = some (.cells cs T z) → T ∉ [97, 184, 90, 147, 201, 142] → ¬ S x
theorem RgS.k {S : Nat → Prop} {W : World} (h : RgS S W) : RgK S W := fun _ _ _ _ hx hT => h.no hx hT
section
variable {R : Rg} {I : List InS} {t : Nat} {room : Int} {tv : Value} {rf : Int} {TP : List PV} {D : DataW Unit} {SL : List SlK} {tt : Nat} {C : Nat → Nat → Nat → List Int} {a : Nat} {r0 r1 : Int} {ra rb : Nat} {since all : Int} {w W W' : World}
/-- What a Register that may be tells and leaves. -/
def RgNw (R : Rg) (I : List InS) (t : Nat) (tt : Nat) (ra rb : Nat) (since all : Int) (ser : List UInt8) (w W : World) (id : Nat) (w' : World) : Prop :=
  ∃ I' room tv rf TP D SL C a r0 r1 Q, CtS R I' (t + 1) room tv rf TP D SL tt C a r0 r1 ra rb since all w w' ∧ Chg Q W w' ∧ RgK Q W ∧ (∃ hid : id < I'.length, serT I'[id] = ser) ∧ (I' = I ∨ I'.length = I.length + 1 ∧ id = I.length ∧ ∀ i (hi : i < I.length), serT I[i] ≠ ser)
theorem CtS.regd (H : CtS R I t room tv rf TP D SL tt C a r0 r1 ra rb since all w W) (ht : t < 4611686018427387904) (hI : I.length < 250) (v : List UInt8) (hv : v.length ≤ 4611686018427387904) (lv : Value) (hd : La.DsC W (dN v) (.agg #[.int .i64 1, .string ⟨#[99]⟩, .string ⟨#[]⟩, lv])) (hS : Va.SLb W lv [([110], v)]) :
    Calls Tryz.prog 11 #[.pointer (some ⟨R.b, 0, none⟩), .pointer none, .agg #[.int .i64 1, .string ⟨#[99]⟩, .string ⟨#[]⟩, lv]] W fun e w' => (La.txE v ≠ 0 ∧ e = .returned (.tuple #[.int .i64 0, .int .i64 (La.txE v)]) ∧ Below W.heap.size W w') ∨ (La.txE v = 0 ∧ ∃ id : Nat, e = .returned (.tuple #[.int .i64 (id : Int), .int .i64 0]) ∧ RgNw R I t tt ra rb since all (La.printT [99] [([110], v)]) w W id w') := by
  refine Calls.mono (reg15 H.rg.reg ht (dN v) lv hd ⟨by show 1 ≤ 4611686018427387904; omega, by show 0 ≤ 4611686018427387904; omega, fun a ha => by rw [List.mem_singleton.1 ha]; exact ⟨by show 1 ≤ 4611686018427387904; omega, hv⟩⟩ hS (by show 1 ≤ 1048576; omega) (fun k => by
    rw [chk_dN] at k
    have h1 := tx_len k
    have h2 := print_dN v
    omega) (fun _ => Or.inl rfl)) ?_
  have hno : I.any (unF 1 [99] []) = false := by
    rw [List.any_eq_false]
    intro x hx
    obtain ⟨i, hi, rfl⟩ := List.getElem_of_mem hx
    obtain ⟨e1, e2, e3⟩ := H.ins i hi
    unfold unF
    rw [e1, e2, e3]
    decide
  intro e w' q
  have hRS := rgs_all H.rg
  cases q with
  | bad k he hb =>
    rw [chk_dN] at k he
    exact Or.inl ⟨k, he, hb⟩
  | stay id er k c he hR hc =>
    rw [chk_dN] at k
    have hcQ : Chg (fun y => y = R.b ∨ GB SL y ∨ y = R.k ∨ y = R.ph ∨ tv.ownBlock = some y) W w' := hc.mono (fun x e => Or.inl e)
    have xk : ∀ {x : Nat} {s : Int}, Rc W x R.k s false → Rc w' x R.k s false := fun hx' => rc_chg hx' hcQ (hRS.no hx' (by decide))
    have hb : Below w.heap.size w w' := H.bel.trans (hc.below H.bel.size (fun y hy => hy ▸ H.fr.b))
    cases c with
    | unlike k' => exact absurd (hno.symm.trans k') (by decide)
    | old i hi k1 k2 => exact Or.inr ⟨k, i, he, I, room, tv, rf, TP, D, SL, C, a, r0, r1, _, ⟨H.n, H.p, H.rg.stay hR hc, xk H.xa, xk H.xb, H.rm, H.ins, H.off, H.now, H.ever, hb, H.fr, H.fa⟩, hcQ, hRS.k, ⟨hi, k2⟩, Or.inl rfl⟩
    | many _ _ k' => omega
    | room _ _ _ k' =>
      rw [H.n, H.p] at k'
      have k'' : room < celF 1 (2 : Int) (1 : Int) := k'
      rw [cel_dN, H.rm] at k''
      omega
  | new X tv' lb lo la lc k1 k2 k3 k4 k5 k6 hL k7 k8 k9 k10 k11 =>
    rw [chk_dN] at k1
    have hN := H.rg.new (x := ⟨(dN v).kind, (dN v).name, (dN v).help, lb, lo, la, lc, (dN v).labels, X.s⟩) (ser := La.printT (dN v).name (dN v).labels) rfl k3 hL (Or.inl rfl) k11 (by show 1 ≤ 1048576; omega) (by rw [H.n, H.p]; show (0 : Int) ≤ celF 1 (2 : Int) (1 : Int); rw [cel_dN]; decide)
    have hlen := H.rg.sls.len
    have hTP : TP.length = I.length := H.rg.reg.len
    have hc := hL.chg
    have hRK : RgK (fun y => y = R.b ∨ y = R.mp ∨ tv.ownBlock = some y) W := fun x cs T z hx hT k => by
      rcases k with k | k | k
      · exact (typ_rb H.rg.reg.rg).no hx (fun h => hT (by rw [List.mem_singleton.1 h]; decide)) k
      · obtain ⟨es, ck, hm, _⟩ := H.rg.reg.mp
        rw [← k, hx] at hm
        cases hm
      · exact (typ_own H.rg.reg.tot).no hx (fun h => hT (by rw [List.mem_singleton.1 h]; decide)) k
    have xk : ∀ {x : Nat} {s : Int}, Rc W x R.k s false → Rc w' x R.k s false := fun hx' => rc_chg hx' hc (hRK _ _ _ _ hx' (by decide))
    have hlt : I.length < (I ++ [(⟨(dN v).kind, (dN v).name, (dN v).help, lb, lo, la, lc, (dN v).labels, X.s⟩ : InS)]).length := by rw [List.length_append, List.length_singleton]; omega
    refine Or.inr ⟨k1, I.length, k6, _, _, tv', rf, _, _, _, _, a, r0, r1, _, ⟨H.n, H.p, hN, xk H.xa, xk H.xb, ?_, fun i hi => ?_, fun j hj i hi => ?_, ?_, ?_, ?_, ?_, H.fa⟩, hc, hRK, ⟨hlt, ?_⟩, Or.inr ⟨by rw [List.length_append, List.length_singleton], rfl, k3⟩⟩
    · rw [H.n, H.p, H.rm, List.length_append, List.length_singleton]
      show 4096 - 8 * (I.length : Int) - celF 1 (2 : Int) (1 : Int) = _
      have := cel_dN
      omega
    · rw [List.length_append, List.length_singleton] at hi
      by_cases e : i < I.length
      · rw [List.getElem_append_left e]
        exact H.ins i e
      · obtain rfl : i = I.length := by omega
        rw [List.getElem_append_right (Nat.le_refl _)]
        simp only [Nat.sub_self, List.getElem_singleton]
        exact ⟨rfl, rfl, rfl⟩
    · rw [List.length_append, List.length_singleton] at hj
      unfold moreC
      by_cases e : j = SL.length
      · rw [if_pos e, H.p]
        rfl
      · rw [if_neg e]
        exact H.off j (by omega) i hi
    · rw [List.length_append, List.length_singleton]
      show Mq since (smF _ I.length + _)
      have e1 : Mq (smF (fun j => smF (fun s => rowLo (moreC C SL.length (dN v).kind R.p j a s)) 2) I.length) (smF (fun j => smF (fun s => rowLo (C j a s)) 2) I.length) := smF_congr (fun j hj => by
        unfold moreC
        rw [if_neg (by omega)]
        exact Mq.refl _)
      have e2 : Mq (smF (fun s => rowLo (moreC C SL.length (dN v).kind R.p I.length a s)) 2) 0 := smF_zero (fun s _ => by
        unfold moreC
        rw [if_pos hlen.symm]
        show Mq (rowLo (frst 1 _)) 0
        rw [rowLo_first]
        exact Mq.refl _)
      exact H.now.trans (Mq.symm ((e1.add e2).trans (by rw [Int.add_zero]; exact Mq.refl _)))
    · rw [List.length_append, List.length_singleton]
      show Mq all (since + (smF _ I.length + _))
      have e1 : Mq (smF (fun j => ((TP ++ [PV.nil]).getD j PV.nil).P.lo) I.length) (smF (fun j => (TP.getD j PV.nil).P.lo) I.length) := smF_congr (fun j hj => by
        rw [show (TP ++ [PV.nil]).getD j PV.nil = TP.getD j PV.nil by simp [List.getD_eq_getElem?_getD, List.getElem?_append_left (show j < TP.length by omega)]]
        exact Mq.refl _)
      have e2 : ((TP ++ [PV.nil]).getD I.length PV.nil).P.lo = 0 := by
        rw [← hTP]
        simp [List.getD_eq_getElem?_getD]
        rfl
      have e4 := e1.add (show Mq (((TP ++ [PV.nil]).getD I.length PV.nil).P.lo) 0 by rw [e2]; exact Mq.refl _)
      exact H.ever.trans (Mq.symm ((Mq.refl since).add (e4.trans (by rw [Int.add_zero]; exact Mq.refl _))))
    · refine H.bel.trans (hc.below H.bel.size (fun y hy => ?_))
      rcases hy with hy | hy | hy
      · exact hy ▸ H.fr.b
      · exact hy ▸ H.fr.mp
      · exact H.fr.tv y hy
    · refine ⟨H.fr.b, H.fr.k, H.fr.ph, H.fr.mp, H.fr.fb, ?_, ?_⟩
      · rintro y ⟨j, hj, hy⟩
        rw [List.length_append, List.length_singleton] at hj
        by_cases e : j < SL.length
        · rw [List.getElem_append_left e] at hy
          exact H.fr.gb y ⟨j, e, hy⟩
        · obtain rfl : j = SL.length := by omega
          rw [List.getElem_append_right (Nat.le_refl _)] at hy
          simp only [Nat.sub_self, List.getElem_singleton] at hy
          exact Nat.le_trans H.bel.size (hL.ge y hy)
      · intro y hy
        rcases hL.fr with k | k
        · rw [k] at hy; exact H.fr.tv y hy
        · exact Nat.le_trans H.bel.size (k y hy)
    · rw [List.getElem_append_right (Nat.le_refl _)]
      simp only [Nat.sub_self, List.getElem_singleton]
      rfl
end
end Go.Proofs.YtfnohbalkpponaaGreatDoor
/- RegistryCounts: its calls, as the walk meets them. Own work of the verifier. -/
namespace Go.Proofs.YtfnohbalkpponaaGreatDoor
open Go.RowKit Go.Maps

/-- All but blocks of the registry's stays. -/
def KeptR (W w' : World) : Prop := ∃ Q, Chg Q W w' ∧ RgK Q W
theorem KeptR.of_below {W w' : World} (h : Below W.heap.size W w') : KeptR W w' := ⟨fun _ => False, Chg.of_below h, fun _ _ _ _ _ _ k => k⟩
theorem KeptR.at_ {W w' : World} (h : KeptR W w') {x : Nat} {cs : Array Value} {T : TypeId} {z : Nat × Nat} (hx : W.heap[x]? = some (.cells cs T z)) (hT : T ∉ [97, 184, 90, 147, 201, 142]) : w'.heap[x]? = some (.cells cs T z) := by
  obtain ⟨Q, hc, hk⟩ := h
  exact hc.at_ hx (hk _ _ _ _ hx hT)
theorem KeptR.row {W w' : World} (h : KeptR W w') {B : Nat} {e : TypeId} {s n : Nat} {v : Value} {xs : List Value} (ho : W.ownsRow B e s v n xs) (hT : e ∉ [97, 184, 90, 147, 201, 142]) : w'.ownsRow B e s v n xs := by
  obtain ⟨Q, hc, hk⟩ := h
  exact chg_row hc ho (fun x hx => by
    obtain ⟨cs, hg⟩ := own_blk ho hx
    exact hk _ _ _ _ hg hT)
section
variable {b ra rb n t tt : Nat} {since all : Int} {w W W' : World}
theorem CtS.below {R : Rg} {I : List InS} {room : Int} {tv : Value} {rf : Int} {TP : List PV} {D : DataW Unit} {SL : List SlK} {C : Nat → Nat → Nat → List Int} {a : Nat} {r0 r1 : Int} (H : CtS R I t room tv rf TP D SL tt C a r0 r1 ra rb since all w W) (hb : Below W.heap.size W W') : CtS R I t room tv rf TP D SL tt C a r0 r1 ra rb since all w W' :=
  ⟨H.n, H.p, H.rg.below hb, rc_chg H.xa (Chg.of_below (S := fun _ => False) hb) (fun k => k), rc_chg H.xb (Chg.of_below (S := fun _ => False) hb) (fun k => k), H.rm, H.ins, H.off, H.now, H.ever, bt H.bel hb, H.fr, H.fa⟩
theorem Ct.below (H : Ct b ra rb n t tt since all w W) (hb : Below W.heap.size W W') : Ct b ra rb n t tt since all w W' := by
  obtain ⟨R, I, room, tv, rf, TP, D, SL, C, a, r0, r1, h1, h2, h3⟩ := H
  exact ⟨R, I, room, tv, rf, TP, D, SL, C, a, r0, r1, h1, h2, h3.below hb⟩
theorem Ct.bel (H : Ct b ra rb n t tt since all w W) : Below w.heap.size w W := by
  obtain ⟨R, I, room, tv, rf, TP, D, SL, C, a, r0, r1, h1, h2, h3⟩ := H
  exact h3.bel
/-- An Add, as the walk meets it. -/
theorem Ct.add (H : Ct b ra rb n t tt since all w W) {id : Nat} (hid : id < n) (m : Int) (hm : 0 ≤ m ∧ m < 9223372036854775808) (htt : tt + 1 < 70368744177664) {rc : Nat} (hx : rc = ra ∨ rc = rb) :
    Calls Tryz.prog 18 #[.pointer (some ⟨b, 0, none⟩), .pointer none, .pointer (some ⟨rc, 0, none⟩), .int .i64 (id : Int), .int .i64 m] W fun e w' => e = .returned (.int .i64 0) ∧ Hid (Ct b ra rb n t (tt + 1) (since + m) (all + m) w w' ∧ KeptR W w') := by
  obtain ⟨R, I, room, tv, rf, TP, D, SL, C, a, r0, r1, rfl, rfl, h3⟩ := H
  have hx' : ∃ st : Nat, (rc = ra ∧ st = 0) ∨ (rc = rb ∧ st = 1) := by
    rcases hx with e | e
    · exact ⟨0, Or.inl ⟨e, rfl⟩⟩
    · exact ⟨1, Or.inr ⟨e, rfl⟩⟩
  obtain ⟨st, hx'⟩ := hx'
  refine Calls.mono (h3.add hid m hm htt hx') ?_
  rintro e w' ⟨rfl, q⟩
  obtain ⟨C', r0', r1', S, q1, q2, q3⟩ := q.out
  exact ⟨rfl, ⟨R, I, room, tv, rf, TP, D, SL, C', a, r0', r1', rfl, rfl, q1⟩, S, q2, q3.k⟩
/-- A Reset, as the walk meets it. -/
theorem Ct.reset (H : Ct b ra rb n t tt since all w W) (ht : t < 4611686018427387904) :
    Calls Tryz.prog 17 #[.pointer (some ⟨b, 0, none⟩), .pointer none] W fun e w' => ∃ (u : Value) (r : Int) (S : List VV), e = .returned (.agg #[.int .i64 1, u, .int .u64 r]) ∧ Hid (VsW w' W.heap.size u S ∧ S.length = n ∧ loS S = since % 18446744073709551616 ∧ Ct b ra rb n (t + 1) tt 0 all w w' ∧ KeptR W w') := by
  obtain ⟨R, I, room, tv, rf, TP, D, SL, C, a, r0, r1, rfl, rfl, h3⟩ := H
  refine Calls.mono (h3.reset ht) ?_
  rintro e w' ⟨u, r, S, rfl, q⟩
  obtain ⟨q1, q2, q3, rf', M, C', r0', r1', Q, q4, q5, q6⟩ := q.out
  exact ⟨u, r, S, rfl, q1, q2, q3, ⟨R, I, room, tv, rf', M, D, SL, C', 1 - a, r0', r1', rfl, rfl, q4⟩, Q, q5, q6.k⟩
/-- Totals, as the walk meets them. -/
theorem Ct.totals (H : Ct b ra rb n t tt since all w W) (ht : t < 4611686018427387904) :
    Calls Tryz.prog 14 #[.pointer (some ⟨b, 0, none⟩), .pointer none] W fun e w' => ∃ (u : Value) (r : Int) (S : List VV), e = .returned (.agg #[.int .i64 1, u, .int .u64 r]) ∧ Hid (VsW w' W.heap.size u S ∧ S.length = n ∧ loS S = (all - since) % 18446744073709551616 ∧ Ct b ra rb n (t + 1) tt since all w w' ∧ KeptR W w') := by
  obtain ⟨R, I, room, tv, rf, TP, D, SL, C, a, r0, r1, rfl, rfl, h3⟩ := H
  refine Calls.mono (h3.totals ht) ?_
  rintro e w' ⟨u, r, S, rfl, q⟩
  obtain ⟨q1, q2, q3, Q, q4, q5, q6⟩ := q.out
  exact ⟨u, r, S, rfl, q1, q2, q3, ⟨R, I, room, tv, rf, TP, D, SL, C, a, r0, r1, rfl, rfl, q4⟩, Q, q5, q6.k⟩
/-- Behind the first Register of a name. -/
def Ct1 (v : List UInt8) (b ra rb n t : Nat) (id er : Int) (w W : World) : Prop :=
  (La.txE v ≠ 0 ∧ er = La.txE v ∧ id = 0 ∧ Ct b ra rb n t 0 0 0 w W) ∨
  (La.txE v = 0 ∧ er = 0 ∧ ∃ (k : Nat) (R : Rg) (I : List InS) (room : Int) (tv : Value) (rf : Int) (TP : List PV) (D : DataW Unit) (SL : List SlK) (C : Nat → Nat → Nat → List Int) (a : Nat) (r0 r1 : Int) (hk : k < I.length), id = (k : Int) ∧ R.b = b ∧ CtS R I (t + 1) room tv rf TP D SL 0 C a r0 r1 ra rb 0 0 w W ∧ serT I[k] = La.printT [99] [([110], v)] ∧ (I.length = n ∨ I.length = n + 1 ∧ k = n))
theorem Ct1.below {v : List UInt8} {id er : Int} (H : Ct1 v b ra rb n t id er w W) (hb : Below W.heap.size W W') : Ct1 v b ra rb n t id er w W' := by
  rcases H with ⟨h1, h2, h3, h4⟩ | ⟨h1, h2, k, R, I, room, tv, rf, TP, D, SL, C, a, r0, r1, hk, h3, h4, h5, h6⟩
  · exact Or.inl ⟨h1, h2, h3, h4.below hb⟩
  · exact Or.inr ⟨h1, h2, k, R, I, room, tv, rf, TP, D, SL, C, a, r0, r1, hk, h3, h4, h5.below hb, h6⟩
theorem Ct.reg1 (H : Ct b ra rb n t 0 0 0 w W) (ht : t < 4611686018427387904) (hn : n < 249) (v : List UInt8) (hv : v.length ≤ 4611686018427387904) (lv : Value) (hd : La.DsC W (dN v) (.agg #[.int .i64 1, .string ⟨#[99]⟩, .string ⟨#[]⟩, lv])) (hS : Va.SLb W lv [([110], v)]) :
    Calls Tryz.prog 11 #[.pointer (some ⟨b, 0, none⟩), .pointer none, .agg #[.int .i64 1, .string ⟨#[99]⟩, .string ⟨#[]⟩, lv]] W fun e w' => ∃ id er : Int, e = .returned (.tuple #[.int .i64 id, .int .i64 er]) ∧ Hid (Ct1 v b ra rb n t id er w w' ∧ KeptR W w') := by
  obtain ⟨R, I, room, tv, rf, TP, D, SL, C, a, r0, r1, rfl, rfl, h3⟩ := H
  refine Calls.mono (h3.regd ht (by omega) v hv lv hd hS) ?_
  rintro e w' (⟨h1, rfl, hb⟩ | ⟨h1, id, rfl, I', room', tv', rf', TP', D', SL', C', a', r0', r1', Q, q1, q2, q3, ⟨hid, q4⟩, q5⟩)
  · exact ⟨0, _, rfl, Or.inl ⟨h1, rfl, rfl, R, I, room, tv, rf, TP, D, SL, C, a, r0, r1, rfl, rfl, h3.below hb⟩, KeptR.of_below hb⟩
  · refine ⟨id, 0, rfl, Or.inr ⟨h1, rfl, id, R, I', room', tv', rf', TP', D', SL', C', a', r0', r1', hid, rfl, rfl, q1, q4, ?_⟩, Q, q2, q3⟩
    rcases q5 with rfl | q5
    · exact Or.inl rfl
    · exact Or.inr ⟨q5.1, q5.2.1⟩
/-- .. and behind the second. -/
def Ct2 (v : List UInt8) (b ra rb n t : Nat) (id er : Int) (w W : World) : Prop :=
  (La.txE v ≠ 0 ∧ er = La.txE v ∧ id = 0 ∧ Ct b ra rb n t 0 0 0 w W) ∨
  (La.txE v = 0 ∧ er = 0 ∧ ∃ k m : Nat, id = (k : Int) ∧ Ct b ra rb m (t + 2) 0 0 0 w W ∧ k < m ∧ (m = n ∨ m = n + 1 ∧ k = n))
theorem Ct1.reg2 {v : List UInt8} {id er : Int} (H : Ct1 v b ra rb n t id er w W) (ht : t + 1 < 4611686018427387904) (hn : n < 249) (hv : v.length ≤ 4611686018427387904) (lv : Value) (hd : La.DsC W (dN v) (.agg #[.int .i64 1, .string ⟨#[99]⟩, .string ⟨#[]⟩, lv])) (hS : Va.SLb W lv [([110], v)]) :
    Calls Tryz.prog 11 #[.pointer (some ⟨b, 0, none⟩), .pointer none, .agg #[.int .i64 1, .string ⟨#[99]⟩, .string ⟨#[]⟩, lv]] W fun e w' => e = .returned (.tuple #[.int .i64 id, .int .i64 er]) ∧ Hid (Ct2 v b ra rb n t id er w w' ∧ KeptR W w') := by
  rcases H with ⟨h1, rfl, rfl, h4⟩ | ⟨h1, rfl, k, R, I, room, tv, rf, TP, D, SL, C, a, r0, r1, hk, rfl, rfl, h5, h6, h7⟩
  · refine Calls.mono (h4.reg1 (by omega) (by omega) v hv lv hd hS) ?_
    rintro e w' ⟨id, er, rfl, q⟩
    rcases q.out.1 with ⟨_, e1, e2, e3⟩ | ⟨e1, _⟩
    · subst e1 e2
      exact ⟨rfl, Or.inl ⟨h1, rfl, rfl, e3⟩, q.out.2⟩
    · exact absurd e1 h1
  · refine Calls.mono (h5.regd ht (by rcases h7 with h7 | h7 <;> omega) v hv lv hd hS) ?_
    rintro e w' (⟨e1, _⟩ | ⟨_, id, rfl, I', room', tv', rf', TP', D', SL', C', a', r0', r1', Q, q1, q2, q3, ⟨hid, q4⟩, q5⟩)
    · exact absurd h1 e1
    · rcases q5 with rfl | ⟨q5, q6, q7⟩
      · have e := q1.rg.reg.md.one hid hk (q4.trans h6.symm)
        subst e
        exact ⟨rfl, Or.inr ⟨h1, rfl, id, I'.length, rfl, ⟨R, I', room', tv', rf', TP', D', SL', C', a', r0', r1', rfl, rfl, q1⟩, hk, h7⟩, Q, q2, q3⟩
      · exact absurd h6 (q7 k hk)
end
end Go.Proofs.YtfnohbalkpponaaGreatDoor
/- RegistryCounts: how it begins. Own work of the verifier. -/
namespace Go.Proofs.YtfnohbalkpponaaGreatDoor
open Go.RowKit Go.Maps

def Cn0 (b : Nat) (w W : World) : Prop := ∃ R : Rg, R.b = b ∧ R.n = 2 ∧ R.p = 1 ∧ RgA R [] 0 4096 (.slice none 0 0) 0 [] (.map []) [] 0 (fun _ _ _ => []) 0 0 0 [false, false] W ∧ Below w.heap.size w W ∧ Fresh R [] (.slice none 0 0) w.heap.size
def Cn1 (b ra : Nat) (w W : World) : Prop := ∃ R : Rg, R.b = b ∧ R.n = 2 ∧ R.p = 1 ∧ RgA R [] 1 4096 (.slice none 0 0) 0 [] (.map []) [] 0 (fun _ _ _ => []) 0 0 0 [true, false] W ∧ Below w.heap.size w W ∧ Fresh R [] (.slice none 0 0) w.heap.size ∧ Rc W ra R.k 0 false ∧ w.heap.size ≤ ra
theorem cn_new {w W : World} (hb : Below w.heap.size w W) : Calls Tryz.prog 6 #[.agg #[.int .i64 2, .int .i64 1, .int .i64 4096]] W fun e w' => ∃ b, e = .returned (.tuple #[.pointer (some ⟨b, 0, none⟩), .int .i64 0]) ∧ Hid (Cn0 b w w') := by
  refine Calls.mono (new15_ok 2 1 4096 (by decide) (by decide) (by decide) (by decide) (by decide) (by decide) W) ?_
  rintro e w' ⟨R, rfl, q⟩
  obtain ⟨hn, hp, q⟩ := q.out
  have h := rgA_new q (by omega) (by omega) (by omega) (by omega) (by decide)
  rw [hn] at h
  have hs := hb.size
  exact ⟨_, rfl, R, rfl, hn, hp, h, bt hb q.bel, ⟨Nat.le_trans hs q.ge.1, Nat.le_trans hs q.ge.2.1, Nat.le_trans hs q.ge.2.2.1, Nat.le_trans hs q.ge.2.2.2.1, Nat.le_trans hs q.ge.2.2.2.2, (fun y ⟨j, hj, _⟩ => absurd hj (Nat.not_lt_zero _)), (fun y hy => by cases hy)⟩⟩
theorem cn_rec1 {b : Nat} {w W : World} (h : Cn0 b w W) : Calls Tryz.prog 10 #[.pointer (some ⟨b, 0, none⟩), .pointer none] W fun e w' => ∃ ra, e = .returned (.tuple #[.pointer (some ⟨ra, 0, none⟩), .int .i64 0]) ∧ Hid (Cn1 b ra w w') := by
  obtain ⟨R, rfl, hn, hp, H, hb, F⟩ := h
  refine Calls.mono (rec15_ok H.reg.rg (by decide) H.cp (by decide) (by decide)) ?_
  rintro e w' ⟨rc, rfl, q⟩
  obtain ⟨q1, q2, q3⟩ := q.out
  refine ⟨rc, rfl, R, rfl, hn, hp, H.recd q1, ?_, F, q2, Nat.le_trans hb.size q3⟩
  refine hb.trans (q1.chg.below hb.size ?_)
  intro y hy
  rcases hy with hy | hy
  · exact hy ▸ F.b
  · exact hy ▸ F.fb
theorem cn_rec2 {b ra : Nat} {w W : World} (h : Cn1 b ra w W) : Calls Tryz.prog 10 #[.pointer (some ⟨b, 0, none⟩), .pointer none] W fun e w' => ∃ rb, e = .returned (.tuple #[.pointer (some ⟨rb, 0, none⟩), .int .i64 0]) ∧ Hid (Ct b ra rb 0 2 0 0 0 w w') := by
  obtain ⟨R, rfl, hn, hp, H, hb, F, hra, hge⟩ := h
  refine Calls.mono (rec15_ok H.reg.rg (by decide) H.cp (by decide) (by decide)) ?_
  rintro e w' ⟨rc, rfl, q⟩
  obtain ⟨q1, q2, q3⟩ := q.out
  have ty : Typd W (fun x => x = R.b ∨ x = R.fb) ([97] ++ [142]) := (typ_rb H.reg.rg).or (fun x (e : x = R.fb) => by subst e; exact ⟨_, _, _, H.cp, by simp⟩)
  refine ⟨rc, rfl, R, [], _, _, _, _, _, _, _, _, _, _, rfl, rfl, ⟨hn, hp, H.recd q1, rc_chg hra q1.chg (ty.no hra (by decide)), q2, rfl, fun i hi => absurd hi (Nat.not_lt_zero _), fun j hj => absurd hj (Nat.not_lt_zero _), rfl, rfl, ?_, F, hge, Nat.le_trans hb.size q3⟩⟩
  refine hb.trans (q1.chg.below hb.size ?_)
  intro y hy
  rcases hy with hy | hy
  · exact hy ▸ F.b
  · exact hy ▸ F.fb
/-- Labels and a description, as the law lays them. -/
theorem lay_dN {W : World} {g : Nat} {v : List UInt8} (h : W.heap[g]? = some (.cells #[.string ⟨#[110]⟩, .string ⟨v.toArray⟩] 54 (0, 0))) : La.DsC W (dN v) (.agg #[.int .i64 1, .string ⟨#[99]⟩, .string ⟨#[]⟩, .slice (some ⟨g, 0, none⟩) 1 1]) ∧ Va.SLb W (.slice (some ⟨g, 0, none⟩) 1 1) [([110], v)] := by
  have hc : W.cell? ⟨g, 0, none⟩ = some (.string ⟨#[110]⟩) ∧ W.cell? ⟨g, 1, none⟩ = some (.string ⟨v.toArray⟩) := ⟨by simp [World.cell?, h], by simp [World.cell?, h]⟩
  refine ⟨⟨some ⟨g, 0, none⟩, g, 0, 1, rfl, fun _ => rfl, Nat.le_refl _, by decide, ?_⟩, Or.inr ⟨g, 0, 1, rfl, Nat.le_refl _, ?_⟩⟩
  · intro i hi
    obtain rfl : i = 0 := by have : i < 1 := hi; omega
    exact hc
  · intro i hi
    obtain rfl : i = 0 := by have : i < 1 := hi; omega
    exact hc
end Go.Proofs.YtfnohbalkpponaaGreatDoor
